/-
  What the run of closed code says of the machine: a region in its order. No program.
  A region that draws its order: what each operation waits for; what one looks at. No program.
  A region that draws its order: what the run finds. No program.
  A region that draws its order: what was found, by numbers of operations. No program.
  A region that draws its order: whatever order its operations come up in, each finds what it found in the run. No program.
  A region that draws its order: in whatever order, it ends as the run says. No program.
  What the run of closed code says of the machine: codes. No program.
  What the run of closed code says of the machine: codes, loops, loops over functions. No program.
  What the run of closed code says of the machine: codes. No program.
  What the run of closed code says of the machine: calls; the theorem. No program.
  What the run of closed code says of the machine: calls; the theorem. No program.
-/
import Derived.Test.YtfjilbjofaommaaZm
import Derived.OrdersIn
import Derived.RangeFuncNested
import Derived.Below
set_option linter.unusedSimpArgs false
set_option linter.unusedVariables false
set_option linter.unusedSectionVars false
namespace Go.Rx
open Go
variable {P : Program} {R : Ren} {N : Nat} {T : Tr LV} {a : Act} {H : Hp} {w : World} {nx : Nat}

theorem put_tmps (a : Act) (dst : Option Tmp) (v : Value) : (a.put dst v).tmps = (match dst with | some d => a.tmps.setIfInBounds d v | none => a.tmps) := by cases dst <;> rfl
theorem put_defers (a : Act) (dst : Option Tmp) (v : Value) : (a.put dst v).defers = a.defers := by cases dst <;> rfl
theorem putT_ok {T' : Tr LV} {dst : Option Tmp} {lv : LV} {v : Value} (h : putT T N dst lv = some T') (hF : FR R N T a.tmps) (hv : VR R lv v) : FR R N T' (a.put dst v).tmps := by
  cases dst with
  | none => simp [putT] at h; subst h; exact hF
  | some d =>
    unfold putT at h
    cases hb : Nat.blt d N
    · simp [hb] at h
    · simp [hb, Tr.force_eq] at h; subst h
      have hd : d < N := by simpa using hb
      refine ⟨by simp [Act.put, hF.size], fun t x hx => ?_⟩
      have hd' : d < a.tmps.size := by rw [hF.size]; exact hd
      by_cases e : t = d
      · subst e
        rw [Tr.get_set_same] at hx; cases hx
        simpa [Act.put, hd'] using hv
      · rw [Tr.get_set_ne _ _ e] at hx
        have := hF.at_ t x hx
        simpa [Act.put, Array.getD_eq_getD_getElem?, Array.getElem?_setIfInBounds_ne (Ne.symm e)] using this
theorem want_ok {ops : Array Oper} {o : Oper} {b : Bool} (h : want ops T o = some b) (hF : FR R N T a.tmps) : Region.wanted o (yielded ops a.tmps) = b := by
  unfold want at h
  unfold Region.wanted
  cases hg : o.guard with
  | none => simp [hg] at h; simp [h]
  | some q =>
    obtain ⟨j, wn⟩ := q
    simp only [hg] at h ⊢
    cases hd : (ops[j]?).bind (·.dst) with
    | none =>
      simp only [hd] at h
      have hy : yielded ops a.tmps j = none := by simp [yielded, hd]
      rw [hy]; simp at h ⊢; exact h
    | some d =>
      simp only [hd] at h
      cases ht : T.get d with
      | none => simp [ht] at h
      | some x =>
        have hx := hF.at_ d x ht
        simp only [ht] at h
        split at h
        · rename_i y e
          cases e
          have hx : a.tmps.getD d undef = .bool y := hx
          have hg' : a.tmps[d]? = some (.bool y) := by
            rw [Array.getD_eq_getD_getElem?] at hx
            cases hq : a.tmps[d]? with
            | none => rw [hq] at hx; cases hx
            | some u => rw [hq] at hx; simp at hx; rw [hx]
          have hy : yielded ops a.tmps j = some y := by simp [yielded, hd, hg']
          rw [hy]
          cases y <;> cases wn <;> simp at h <;> simp [← h]
        · rename_i e
          cases e
          simp at h; subst h
          have hy : yielded ops a.tmps j = none := by
            obtain ⟨u, hu, hu2⟩ := hx
            rw [Array.getD_eq_getD_getElem?] at hu
            simp only [yielded, hd, Option.bind_some]
            cases hq : a.tmps[d]? with
            | none => rfl
            | some z =>
              rw [hq] at hu; simp at hu
              subst hu; rfl
          rw [hy]; rfl
        · cases h
theorem mem_addW {id : Nat} : ∀ {l m : List Nat}, id ∈ addW l m ↔ id ∈ l ∨ id ∈ m
  | [], m => by simp [addW]
  | x :: l, m => by
    unfold addW
    cases hb : List.elem x m
    · simp only [cond_false]
      rw [mem_addW (l := l)]
      simp only [List.mem_cons]
      constructor
      · rintro (h | h | h) <;> simp [h]
      · rintro ((h | h) | h) <;> simp [h]
    · simp only [cond_true]
      rw [mem_addW (l := l)]
      have hx : x ∈ m := by simpa using hb
      constructor
      · rintro (h | h) <;> simp [h]
      · rintro (h | h)
        · rcases List.mem_cons.1 h with rfl | h
          · exact .inr hx
          · exact .inl h
        · exact .inr h

/-- The marks of the loops over functions that a function has entered. -/
def DR (R : Ren) : List Nat → List Deferred → Prop
  | [], ds => ds = []
  | d :: l, ds => ∃ b c r, R d = some (b, c) ∧ ds = { target := .collected b, args := #[] } :: r ∧ DR R l r
theorem DR.mono {R R' : Ren} (h : Le R R') : ∀ {l : List Nat} {ds : List Deferred}, DR R l ds → DR R' l ds
  | [], _, hd => hd
  | _ :: _, _, hd => by obtain ⟨b, c, r, h1, h2, h3⟩ := hd; exact ⟨b, c, r, h _ _ h1, h2, DR.mono h h3⟩
structure St (R : Ren) (s : S) (a : Act) (w : World) : Prop where
  F : FR R s.N s.T a.tmps
  M : Rel R s.H w
  D : DR R s.df a.defers
structure Up (s s' : S) : Prop where
  mx : s.mx ≤ s'.mx
  nx : s.nx ≤ s'.nx
  N : s'.N = s.N
  wr : ∀ id ∈ s.wr, id ∈ s'.wr
theorem Up.refl (s : S) : Up s s := ⟨Nat.le_refl _, Nat.le_refl _, rfl, fun _ h => h⟩
theorem Up.trans {s s₁ s₂ : S} (h : Up s s₁) (h' : Up s₁ s₂) : Up s s₂ := ⟨Nat.le_trans h.mx h'.mx, Nat.le_trans h.nx h'.nx, h'.N.trans h.N, fun id hi => h'.wr id (h.wr id hi)⟩
theorem Free.less {R : Ren} {a b b' : Nat} (h : Free R a b') (hle : b ≤ b') : Free R a b := fun id h1 h2 => h id h1 (by omega)
theorem Free.after {R R' : Ren} {nx nx' nx'' : Nat} {wr : List Nat} {w w' : World} (h : Free R nx nx'') (hx : Ext R R' nx nx' wr w w') (hle : nx ≤ nx') : Free R' nx' nx'' := fun id h1 h2 => by
  rw [hx.out id (.inr h1)]; exact h id (by omega) h2
theorem match_self {β : Type} (l : List Nat) (f : List Nat → β) : (match l with | [] => f [] | x :: r => f (x :: r)) = f l := by cases l <;> rfl
theorem more'_le (a b : Nat) : a ≤ more' a b ∧ b ≤ more' a b := by
  unfold more'
  cases h : Nat.ble b a
  · have : ¬ b ≤ a := fun hle => by
      have e : Nat.ble b a = true := by simpa using hle
      rw [e] at h; cases h
    exact ⟨show a ≤ b by omega, Nat.le_refl _⟩
  · exact ⟨Nat.le_refl _, by simpa using h⟩
/-- One operation of a region. -/
theorem evOps_cons {call : CallT} {ops : Array Oper} {o : Oper} {rest : List Oper} {s s' : S} (h : evOps P call ops (o :: rest) s = some s') :
    (want ops s.T o = some false ∧ ∃ T', putT s.T s.N o.dst (.tup []) = some T' ∧ evOps P call ops rest { s with T := T' } = some s') ∨
    (want ops s.T o = some true ∧ ∃ r T', evOp P call s.T s.H s.nx o.op = some r ∧ s.nx ≤ r.o.nx ∧ r.o.nx ≤ r.mx ∧ putT s.T s.N o.dst r.o.v = some T' ∧ evOps P call ops rest ⟨T', s.N, r.o.H, r.o.nx, addW r.o.wr s.wr, s.df, more' s.mx r.mx⟩ = some s') := by
  obtain ⟨T, N, H, nx, wr, df, mx⟩ := s
  simp only [evOps] at h
  cases hw : want ops T o with
  | none => simp [hw] at h
  | some b =>
    cases b with
    | false =>
      simp only [hw] at h
      cases hp : putT T N o.dst (.tup []) with
      | none => simp [hp] at h
      | some T' => simp only [hp] at h; exact .inl ⟨rfl, T', rfl, h⟩
    | true =>
      simp only [hw] at h
      cases he : evOp P call T H nx o.op with
      | none => simp [he] at h
      | some r =>
        obtain ⟨⟨v, H', nx', wr'⟩, m⟩ := r
        simp only [he] at h
        cases hb : (Nat.ble nx nx' && Nat.ble nx' m)
        · simp [hb] at h
        · simp only [hb, cond_true] at h
          simp only [Bool.and_eq_true] at hb
          cases hp : putT T N o.dst v with
          | none => simp [hp] at h
          | some T' =>
            simp only [hp, nN_eq] at h
            refine .inr ⟨rfl, ⟨⟨v, H', nx', wr'⟩, m⟩, T', rfl, by simpa using hb.1, by simpa using hb.2, hp, ?_⟩
            cases hl : addW wr' wr with
            | nil => rw [hl] at h; exact h
            | cons x l => rw [hl] at h; exact h
theorem evOps_up {call : CallT} {ops : Array Oper} : ∀ {l : List Oper} {s s' : S}, evOps P call ops l s = some s' → Up s s'
  | [], s, s', h => by simp [evOps] at h; subst h; exact Up.refl s
  | o :: l, s, s', h => by
    rcases evOps_cons h with ⟨_, T', _, h'⟩ | ⟨_, r, T', _, hle, _, _, h'⟩
    · have := evOps_up h'; exact ⟨this.mx, this.nx, this.N, this.wr⟩
    · have := evOps_up h'
      exact ⟨Nat.le_trans (more'_le _ _).1 this.mx, Nat.le_trans hle this.nx, this.N, fun id hi => this.wr id (mem_addW.2 (.inr hi))⟩
theorem evOps_ok {call : CallT} (hcall : CallOK P call) {ops : Array Oper} {ro : Option Nat} {n : Nat} {Q : Exit → Act → World → Prop} : ∀ {l : List Oper} {k : Nat} {s s' : S} {R : Ren} {a : Act} {w : World}, (∀ j, l[j]? = ops[k + j]?) →
    evOps P call ops l s = some s' → St R s a w → Free R s.nx s'.mx → (∀ R' a' w', Ext R R' s.nx s'.nx s'.wr w w' → St R' s' a' w' → Q .normal a' w') → wpOpsIn (Fw ro) n P ops Q (List.range' k l.length) a w
  | [], k, s, s', R, a, w, _, h, hs, _, hQ => by
    simp [evOps] at h; subst h
    exact hQ R a w (Ext.refl R _ _ w) hs
  | o :: l, k, s, s', R, a, w, hl, h, hs, hf, hQ => by
    have h0 : ops[k]? = some o := by simpa using (hl 0).symm
    have hl' : ∀ j, l[j]? = ops[k + 1 + j]? := fun j => by have := hl (j + 1); simpa [Nat.add_assoc, Nat.add_comm 1 j] using this
    simp only [List.length_cons, List.range'_succ, wpOpsIn, h0]
    rcases evOps_cons h with ⟨hw, T', hp, h'⟩ | ⟨hw, r, T', he, hle, hle', hp, h'⟩
    · rw [want_ok hw hs.F, if_neg (by simp)]
      refine ⟨fun _ _ => trivial, evOps_ok hcall hl' h' ⟨putT_ok hp hs.F ⟨#[], rfl, rfl⟩, hs.M, by rw [put_defers]; exact hs.D⟩ hf hQ⟩
    · rw [want_ok hw hs.F, if_pos rfl]
      have hup := evOps_up h'
      refine evOp_ok hcall hs.F hs.M (hf.less (Nat.le_trans (more'_le _ _).2 hup.mx)) he ?_
      rintro v w1 ⟨R1, hx, hm, hv⟩
      have hx' : Ext R R1 s.nx r.o.nx s'.wr w w1 := hx.wider fun id hi => hup.wr id (mem_addW.2 (.inl hi))
      refine evOps_ok hcall hl' h' ⟨putT_ok hp (hs.F.mono hx.le) hv, hm, by rw [put_defers]; exact hs.D.mono hx.le⟩ (hf.after hx hle) ?_
      intro R' a' w' hx2 hs'
      exact hQ R' a' w' (hx'.trans hx2 hle hup.nx) hs'
end Go.Rx

set_option linter.unusedSimpArgs false
set_option linter.unusedVariables false
set_option linter.unusedSectionVars false
namespace Go.Rx
open Go
variable {P : Program}

/-! ### What an operation looks at -/
theorem evOs_congr {T T' : Tr LV} : ∀ {l : List Operand}, (∀ x ∈ l, evO T x = evO T' x) → evOs T l = evOs T' l
  | [], _ => rfl
  | x :: l, h => by
    simp only [evOs]
    rw [h x (by simp), evOs_congr (l := l) fun y hy => h y (by simp [hy])]
theorem parts_congr {T T' : Tr LV} : ∀ {l : List (Nat × Operand)}, (∀ x ∈ l.map (·.2), evO T x = evO T' x) → parts T l = parts T' l
  | [], _ => rfl
  | (i, x) :: l, h => by
    simp only [parts]
    rw [h x (by simp), parts_congr (l := l) fun y hy => h y (by simp at hy ⊢; exact .inr hy)]
theorem bnds_congr {T T' : Tr LV} {len cap : Nat} {lo hi mx : Option Operand} (h1 : ∀ x, lo = some x → evO T x = evO T' x) (h2 : ∀ x, hi = some x → evO T x = evO T' x) (h3 : ∀ x, mx = some x → evO T x = evO T' x) : bnds T len cap lo hi mx = bnds T' len cap lo hi mx := by
  unfold bnds
  cases lo <;> cases hi <;> cases mx <;> simp_all
theorem evPure_congr {T T' : Tr LV} {op : Op} (h : ∀ x ∈ op.operands, evO T x = evO T' x) : evPure P T op = evPure P T' op := by
  cases op <;> simp only [evPure]
  case move x => exact h x (by simp [Op.operands])
  case assign x => exact h x (by simp [Op.operands])
  case pick c x y => simp only [evPick, h c (by simp [Op.operands]), h x (by simp [Op.operands]), h y (by simp [Op.operands])]
  case nilCheck x => simp only [evNil, h x (by simp [Op.operands])]
  case build t ps => simp only [evBuild, parts_congr (l := ps.toList) (T := T) (T' := T') fun x hx => h x (by simpa [Op.operands] using hx)]
  case binOp op t x y yt => simp only [evBinO, h x (by simp [Op.operands]), h y (by simp [Op.operands])]
  case unOp op t x => simp only [evUn, h x (by simp [Op.operands])]
  case convert s d x => simp only [evConv, h x (by simp [Op.operands])]
  case makeFunc f x c =>
    cases f <;> simp only
    simp only [evMkFn, evOs_congr (l := x.toList) (T := T) (T' := T') fun y hy => h y (by simp [Op.operands]; simp at hy; exact .inl hy), evOs_congr (l := c.toList) (T := T) (T' := T') fun y hy => h y (by simp [Op.operands]; simp at hy; exact .inr hy)]
  case makeInterface t x => simp only [evMkIf, h x (by simp [Op.operands])]
  case field t x f => simp only [evField, h x (by simp [Op.operands])]
  case index t x ix => simp only [evIndex, evIdxA, evIdxS, h x (by simp [Op.operands]), h ix (by simp [Op.operands])]
  case fieldAddr t x f => simp only [evFAddr, h x (by simp [Op.operands])]
  case indexAddr t x ix => simp only [evIAddr, h x (by simp [Op.operands]), h ix (by simp [Op.operands])]
  case slice t x lo hi mx =>
    have hb : ∀ len cap, bnds T len cap lo hi mx = bnds T' len cap lo hi mx := fun len cap => bnds_congr (fun y e => h y (by simp [Op.operands, e])) (fun y e => h y (by simp [Op.operands, e])) (fun y e => h y (by simp [Op.operands, e]))
    have hb' : ∀ len cap, bnds T len cap lo hi none = bnds T' len cap lo hi none := fun len cap => bnds_congr (fun y e => h y (by simp [Op.operands, e])) (fun y e => h y (by simp [Op.operands, e])) (fun y e => by cases e)
    simp only [evSliceO, h x (by simp [Op.operands]), evSlice, hb, hb']
  case extract x k => simp only [evExtract, h x (by simp [Op.operands])]
theorem evOp_congr {call : CallT} {T T' : Tr LV} {H : Hp} {nx : Nat} {op : Op} (h : ∀ x ∈ op.operands, evO T x = evO T' x) : evOp P call T H nx op = evOp P call T' H nx op := by
  cases op <;> simp only [evOp]
  case load t x => simp only [evLoad, h x (by simp [Op.operands])]
  case store t x y => simp only [evStore, h x (by simp [Op.operands]), h y (by simp [Op.operands])]
  case box t x => simp only [evBox, h x (by simp [Op.operands])]
  case buildSlice t len ps => simp only [evBuildSl, parts_congr (l := ps.toList) (T := T) (T' := T') fun x hx => h x (by simpa [Op.operands] using hx)]
  case makeSlice t l c => simp only [evMakeSl, h l (by simp [Op.operands]), h c (by simp [Op.operands])]
  case call c =>
    obtain ⟨callee, args, ts⟩ := c
    have ha := evOs_congr (l := args.toList) (T := T) (T' := T') fun y hy => h y (by simp [Op.operands, Call.operands]; simp at hy; exact .inr hy)
    cases callee with
    | value f => simp only [evCallee, ha, h f (by simp [Op.operands, Call.operands])]
    | builtin b => simp only [evCallee, ha]
    | invoke x m => rfl
  all_goals (simp only [evPureO]; rw [evPure_congr h])
theorem want_congr {ops : Array Oper} {T T' : Tr LV} {o : Oper} (h : ∀ t ∈ o.looksAt ops, T.get t = T'.get t) : want ops T o = want ops T' o := by
  unfold want
  cases hg : o.guard with
  | none => rfl
  | some q =>
    obtain ⟨j, wn⟩ := q
    simp only
    cases hd : (ops[j]?).bind (·.dst) with
    | none => rfl
    | some d => simp only [h d (by simp [Oper.looksAt, hg, hd])]
/-- A frame of which only some temporaries are known. -/
noncomputable def only (T : Tr LV) : List Nat → Tr LV
  | [] => .l
  | t :: l => (only T l).set t (T.get t)
theorem get_only (T : Tr LV) : ∀ (l : List Nat) (t : Nat), (only T l).get t = if t ∈ l then T.get t else none
  | [], t => by simp [only, Tr.get_l]
  | x :: l, t => by
    rw [only, Tr.get_set, get_only T l]
    by_cases e : t = x
    · subst e; simp
    · simp [e]
theorem evO_only {ops : Array Oper} {T : Tr LV} {o : Oper} {x : Operand} (hx : x ∈ o.op.operands) : evO (only T (o.looksAt ops)) x = evO T x := by
  cases x with
  | tmp t =>
    have : t ∈ o.looksAt ops := List.mem_append_left _ (List.mem_filterMap.2 ⟨.tmp t, by simpa using hx, rfl⟩)
    simp [evO, get_only, this]
  | _ => rfl

/-! ### What an operation waits for -/
theorem testBit_edge {ms : Tr Nat} {i : Nat} : ∀ {l : List Edge}, (edgeMask ms l).testBit i = true ↔ ∃ e ∈ l, Region.binds .any e = true ∧ (e.on = i ∨ ((ms.get e.on).getD 0).testBit i = true)
  | [] => by simp [edgeMask]
  | e :: l => by
    simp only [edgeMask]
    cases hb : Region.binds .any e
    · simp only [cond_false, testBit_edge (l := l), List.mem_cons]
      constructor
      · rintro ⟨x, h1, h2⟩; exact ⟨x, .inr h1, h2⟩
      · rintro ⟨x, rfl | h1, h2, h3⟩
        · rw [hb] at h2; cases h2
        · exact ⟨x, h1, h2, h3⟩
    · simp only [cond_true]
      have e1 : ∀ x y : Nat, Nat.lor x y = x ||| y := fun _ _ => rfl
      have e2 : Nat.pow 2 e.on = 2 ^ e.on := rfl
      rw [e1, e1, e2, Nat.testBit_or, Nat.testBit_or, Nat.testBit_two_pow, Bool.or_eq_true, Bool.or_eq_true, testBit_edge (l := l)]
      simp only [decide_eq_true_eq, List.mem_cons]
      constructor
      · rintro ((h | h) | ⟨x, h1, h2⟩)
        · exact ⟨e, .inl rfl, hb, .inl h⟩
        · exact ⟨e, .inl rfl, hb, .inr h⟩
        · exact ⟨x, .inr h1, h2⟩
      · rintro ⟨x, rfl | h1, h2, h3⟩
        · exact .inl h3
        · exact .inr ⟨x, h1, h2, h3⟩
noncomputable def dep (ms : Tr Nat) (k i : Nat) : Bool := ((ms.get k).getD 0).testBit i
theorem pairs_ok {ops : Array Oper} {ms : Tr Nat} {k : Nat} {o : Oper} {m : Nat} : ∀ {l : List Oper} {j : Nat}, pairsOK ops ms k o m j l = true → ∀ (i : Nat) (oi : Oper), l[i]? = some oi →
    if m.testBit (j + i) then j + i < k ∧ ∃ mi, ms.get (j + i) = some mi ∧ mi &&& m = mi else (k ≤ j + i ∨ oi.apart ops o = true)
  | [], _, _, i, oi, h => by simp at h
  | x :: l, j, h, i, oi, hi => by
    have h' : pairsOK ops ms k o m (j + 1) l = true ∧ (if m.testBit j then j < k ∧ ∃ mi, ms.get j = some mi ∧ mi &&& m = mi else (k ≤ j ∨ x.apart ops o = true)) := by
      simp only [pairsOK] at h
      cases hb : m.testBit j
      · rw [hb] at h
        cases hk : Nat.ble k j
        · rw [hk] at h
          cases ha : x.apart ops o
          · rw [ha] at h; cases h
          · rw [ha] at h; exact ⟨h, by simp⟩
        · rw [hk] at h; exact ⟨h, by simp; exact .inl (by simpa using hk)⟩
      · rw [hb] at h
        cases hk : Nat.blt j k
        · rw [hk] at h; cases h
        · rw [hk] at h
          cases hg : ms.get j with
          | none => rw [hg] at h; cases h
          | some mi =>
            rw [hg] at h
            cases hq : Nat.beq (Nat.land mi m) mi
            · simp only [hq] at h; cases h
            · simp only [hq] at h
              exact ⟨h, by simp; exact ⟨by simpa using hk, (beq_iff _ _).1 hq⟩⟩
    cases i with
    | zero => simp at hi; subst hi; exact h'.2
    | succ i =>
      have := pairs_ok h'.1 i oi (by simpa using hi)
      rwa [show j + 1 + i = j + (i + 1) by omega] at this
theorem reg_ok {ops : Array Oper} {ms : Tr Nat} : ∀ {l : List Oper} {j : Nat}, regFrom ops ms j l = true → ∀ (i : Nat) (o : Oper), l[i]? = some o →
    ∃ m, ms.get (j + i) = some m ∧ m = edgeMask ms o.after.toList ∧ m < 2 ^ (j + i) ∧ pairsOK ops ms (j + i) o m 0 ops.toList = true
  | [], _, _, i, o, h => by simp at h
  | x :: l, j, h, i, o, hi => by
    simp only [regFrom] at h
    cases hg : ms.get j with
    | none => rw [hg] at h; cases h
    | some m =>
      rw [hg] at h
      simp only [Bool.and_eq_true, beq_iff] at h
      obtain ⟨⟨⟨⟨h1, h2⟩, h3⟩, h4⟩, h5⟩ := h
      cases i with
      | zero => simp at hi; subst hi; exact ⟨m, hg, h1, by simpa using h2, h4⟩
      | succ i =>
        have := reg_ok h5 i o (by simpa using hi)
        rwa [show Nat.succ j + i = j + (i + 1) by omega] at this
/-- A region's order, as it was found. -/
structure Order (ops : Array Oper) (ms : Tr Nat) : Prop where
  lt : ∀ {k i}, k < ops.size → dep ms k i = true → i < k
  trans : ∀ {k i j}, k < ops.size → dep ms k i = true → dep ms i j = true → dep ms k j = true
  apart : ∀ {k i ok oi}, ops[k]? = some ok → ops[i]? = some oi → i < k → dep ms k i = false → oi.apart ops ok = true
  edge : ∀ {k ok}, ops[k]? = some ok → ∀ e ∈ ok.after, Region.binds .any e = true → dep ms k e.on = true
  edges : ∀ {k ok i}, ops[k]? = some ok → dep ms k i = true → ∃ e ∈ ok.after, Region.binds .any e = true ∧ (e.on = i ∨ dep ms e.on i = true)
  has : ∀ {k}, k < ops.size → ∃ m, ms.get k = some m
theorem order_of {ops : Array Oper} {ms : Tr Nat} (h : regOK ops ms = true) : Order ops ms := by
  have hk : ∀ {k ok}, ops[k]? = some ok → ∃ m, ms.get k = some m ∧ m = edgeMask ms ok.after.toList ∧ m < 2 ^ k ∧ pairsOK ops ms k ok m 0 ops.toList = true := fun {k ok} hok => by
    have := reg_ok h k ok (by simpa using hok)
    simpa using this
  have ex : ∀ {k}, k < ops.size → ∃ ok, ops[k]? = some ok := fun {k} hk => ⟨ops[k], by simp [hk]⟩
  have hlt : ∀ {k i}, k < ops.size → dep ms k i = true → i < k := fun {k i} hks hd => by
    obtain ⟨ok, hok⟩ := ex hks
    obtain ⟨m, hm, _, hlt, _⟩ := hk hok
    simp only [dep, hm, Option.getD_some] at hd
    rcases Nat.lt_or_ge i k with hlt' | hge
    · exact hlt'
    · rw [Nat.testBit_lt_two_pow (Nat.lt_of_lt_of_le hlt (Nat.pow_le_pow_right (by omega) hge))] at hd; cases hd
  refine ⟨hlt, fun {k i j} hks hd hij => ?_, fun {k i ok oi} hok hoi hik hd => ?_, fun {k ok} hok e he hb => ?_, fun {k ok i} hok hd => ?_, fun {k} hks => ?_⟩
  · obtain ⟨ok, hok⟩ := ex hks
    obtain ⟨m, hm, _, _, hp⟩ := hk hok
    have hi := hlt hks hd
    obtain ⟨oi, hoi⟩ := ex (show i < ops.size by omega)
    have := pairs_ok hp i oi (by simpa using hoi)
    simp only [dep, hm, Option.getD_some] at hd ⊢
    simp only [Nat.zero_add, hd, if_true] at this
    obtain ⟨_, mi, hmi, hland⟩ := this
    simp only [dep, hmi, Option.getD_some] at hij
    rw [← hland, Nat.testBit_and, Bool.and_eq_true] at hij
    exact hij.2
  · obtain ⟨m, hm, _, _, hp⟩ := hk hok
    have := pairs_ok hp i oi (by simpa using hoi)
    simp only [dep, hm, Option.getD_some] at hd
    simp only [Nat.zero_add, hd] at this
    simp at this
    exact this.resolve_left (by omega)
  · obtain ⟨m, hm, he', _, _⟩ := hk hok
    simp only [dep, hm, Option.getD_some]
    rw [he', testBit_edge]
    exact ⟨e, by simpa using he, hb, .inl rfl⟩
  · obtain ⟨m, hm, he', _, _⟩ := hk hok
    simp only [dep, hm, Option.getD_some] at hd
    rw [he', testBit_edge] at hd
    obtain ⟨e, h1, h2, h3⟩ := hd
    exact ⟨e, by simpa using h1, h2, h3⟩
  · obtain ⟨ok, hok⟩ := ex hks
    obtain ⟨m, hm, _⟩ := hk hok
    exact ⟨m, hm⟩
end Go.Rx

set_option linter.unusedSimpArgs false
set_option linter.unusedVariables false
set_option linter.unusedSectionVars false
namespace Go.Rx
open Go
variable {P : Program}

theorem ap'_eq : ∀ (l m : List Nat), ap' l m = l ++ m
  | [], m => rfl
  | x :: l, m => by
    rw [ap', ap'_eq l m, List.cons_append]
    generalize l ++ m = u
    cases u <;> rfl
theorem mem_rng {lo id : Nat} : ∀ {n : Nat}, id ∈ rng lo n ↔ lo ≤ id ∧ id < lo + n
  | 0 => by simp [rng]
  | n + 1 => by
    have e : rng lo (n + 1) = (lo + n) :: rng lo n := by
      rw [rng, nN_eq]
      show (match rng lo n with | [] => [lo + n] | x :: l => (lo + n) :: x :: l) = _
      generalize rng lo n = u
      cases u <;> rfl
    rw [e, List.mem_cons, mem_rng (n := n)]
    omega
theorem mem_below {n id : Nat} : ∀ {l : List Nat}, id ∈ below n l ↔ id ∈ l ∧ id < n
  | [] => by simp [below]
  | x :: l => by
    have ih := mem_below (n := n) (id := id) (l := l)
    unfold below
    cases hb : Nat.blt x n
    · have : ¬ x < n := fun h => by
        have e : Nat.blt x n = true := by simpa using h
        rw [e] at hb; cases hb
      simp only [cond_false, ih, List.mem_cons]
      constructor
      · rintro ⟨h1, h2⟩; exact ⟨.inr h1, h2⟩
      · rintro ⟨rfl | h1, h2⟩
        · omega
        · exact ⟨h1, h2⟩
    · have hx : x < n := by simpa using hb
      have e : (bif true then (match below n l with | [] => [x] | y :: r => x :: y :: r) else below n l) = x :: below n l := by cases below n l <;> rfl
      refine Iff.trans (Eq.to_iff (congrArg (id ∈ ·) e)) ?_
      rw [List.mem_cons, ih, List.mem_cons]
      constructor
      · rintro (rfl | ⟨h1, h2⟩)
        · exact ⟨.inl rfl, hx⟩
        · exact ⟨.inr h1, h2⟩
      · rintro ⟨rfl | h1, h2⟩
        · exact .inl rfl
        · exact .inr ⟨h1, h2⟩
theorem delta_cons (H : Hp) (x : Nat) (l : List Nat) : delta H (x :: l) = (x, H.get x) :: delta H l := by
  simp only [delta]
  cases H.get x <;> simp only <;> cases delta H l <;> rfl
theorem applyD_cons (H : Hp) (x : Nat × Option LO) (D : Del) : applyD H (x :: D) = applyD (H.set x.1 x.2) D := by
  obtain ⟨i, o⟩ := x
  simp [applyD, Tr.force_eq]
theorem get_applyD (H' : Hp) : ∀ (l : List Nat) (H : Hp) (id : Nat), (applyD H (delta H' l)).get id = if id ∈ l then H'.get id else H.get id
  | [], H, id => by simp [delta, applyD]
  | x :: l, H, id => by
    rw [delta_cons, applyD_cons, get_applyD H' l]
    by_cases h : id ∈ l
    · simp [h]
    · rw [if_neg h, Tr.get_set]
      by_cases e : id = x
      · subst e; simp
      · simp [e, h]
theorem allIn_ok {H : Hp} {lo : Nat} : ∀ {l : List Nat}, allIn H lo l = true → ∀ id ∈ l, lo ≤ id ∨ ∃ o, H.get id = some o
  | [], _, id, h => by cases h
  | x :: l, h, id, hi => by
    simp only [allIn, Bool.and_eq_true, Bool.or_eq_true] at h
    rcases List.mem_cons.1 hi with rfl | hi
    · rcases h.1 with h1 | h1
      · exact .inl (by simpa using h1)
      · exact .inr (Option.isSome_iff_exists.1 h1)
    · exact allIn_ok h.2 id hi
theorem seenIn_ok {H : Hp} : ∀ {l : List Nat}, seenIn H l = false → ∀ id ∈ l, H.get id = none
  | [], _, id, h => by cases h
  | x :: l, h, id, hi => by
    simp only [seenIn] at h
    cases hg : H.get x with
    | some o => rw [hg] at h; cases h
    | none =>
      rw [hg] at h
      rcases List.mem_cons.1 hi with rfl | hi
      · exact hg
      · exact seenIn_ok h id hi
theorem noneSees_ok {m : Nat} {H : Hp} : ∀ {l : List (Nat × List Nat)}, noneSees m H l = true → ∀ i fo, (i, fo) ∈ l → m.testBit i = false → ∀ id ∈ fo, H.get id = none
  | [], _, i, fo, h, _ => by cases h
  | (j, f) :: l, h, i, fo, hi, hm => by
    have h' : (m.testBit j = false → seenIn H f = false) ∧ noneSees m H l = true := by
      simp only [noneSees] at h
      cases hb : m.testBit j
      · rw [hb] at h
        cases hs : seenIn H f
        · rw [hs] at h; exact ⟨fun _ => rfl, h⟩
        · rw [hs] at h; cases h
      · rw [hb] at h; exact ⟨fun h => (by cases h), h⟩
    rcases List.mem_cons.1 hi with e | hi
    · cases e; exact seenIn_ok (h'.1 hm)
    · exact noneSees_ok h'.2 i fo hi hm
theorem seenByNone_ok {m : Nat} {fo : List Nat} : ∀ {l : List (Nat × Hp)}, seenByNone m fo l = true → ∀ i H, (i, H) ∈ l → m.testBit i = false → ∀ id ∈ fo, H.get id = none
  | [], _, i, H, h, _ => by cases h
  | (j, G) :: l, h, i, H, hi, hm => by
    have h' : (m.testBit j = false → seenIn G fo = false) ∧ seenByNone m fo l = true := by
      simp only [seenByNone] at h
      cases hb : m.testBit j
      · rw [hb] at h
        cases hs : seenIn G fo
        · rw [hs] at h; exact ⟨fun _ => rfl, h⟩
        · rw [hs] at h; cases h
      · rw [hb] at h; exact ⟨fun h => (by cases h), h⟩
    rcases List.mem_cons.1 hi with e | hi
    · cases e; exact seenIn_ok (h'.1 hm)
    · exact seenByNone_ok h'.2 i H hi hm
theorem get_one {H : Hp} {id j : Nat} {o : LO} (h : (one H id).get j = some o) : H.get j = some o := by
  unfold one at h
  cases hg : H.get id with
  | none => rw [hg] at h; simp [Tr.get_l] at h
  | some x =>
    rw [hg] at h
    simp only [Tr.get_set] at h
    by_cases e : j = id
    · subst e; rw [if_pos rfl] at h; rw [hg]; exact h
    · rw [if_neg e] at h; simp [Tr.get_l] at h
theorem scope_ok {T : Tr LV} {S : Nat → Bool} {H : Hp} {ds : List (Nat × Del)} {op : Op} {id : Nat} {o : LO} (h : (scopeOf T S H ds op).get id = some o) : (heapOf S H ds).get id = some o := by
  unfold scopeOf at h
  split at h
  · split at h
    · exact get_one h
    · simp [Tr.get_l] at h
  · split at h
    · exact get_one h
    · simp [Tr.get_l] at h
  · exact h
  · exact h
  · simp [Tr.get_l] at h

/-! ### The run, one operation after the other -/
/-- What one operation's part of the run is. -/
def DStep (P : Program) (call : CallT) (ops : Array Oper) (ms : Tr Nat) (H₀ : Hp) (k : Nat) (o : Oper) (s : S) (g : Log) (s' : S) (g' : Log) : Prop :=
  (want ops s.T o = some false ∧ putT s.T s.N o.dst (.tup []) = some s'.T ∧ s'.N = s.N ∧ s'.nx = s.nx ∧ s'.wr = s.wr ∧ (s'.df = s.df ∧ s'.mx = s.mx) ∧ g' = g) ∨
  (want ops s.T o = some true ∧ ∃ m r, ms.get k = some m ∧ evOp P call s.T (scopeOf s.T m.testBit H₀ g.ds o.op) s.nx o.op = some r ∧ (s.nx ≤ r.o.nx ∧ r.o.nx ≤ r.mx) ∧
    allIn (scopeOf s.T m.testBit H₀ g.ds o.op) s.nx r.o.wr = true ∧ quietWith m (scopeOf s.T m.testBit H₀ g.ds o.op) (below s.nx r.o.wr) g.fs g.hs = true ∧
    putT s.T s.N o.dst r.o.v = some s'.T ∧ s'.N = s.N ∧ s'.nx = r.mx ∧ s'.wr = addW r.o.wr s.wr ∧ (s'.df = s.df ∧ s'.mx = s.mx) ∧
    g' = Log.add k (scopeOf s.T m.testBit H₀ g.ds o.op) (below s.nx r.o.wr) (delta r.o.H (ap' (below s.nx r.o.wr) (rng s.nx (r.o.nx - s.nx)))) g)
theorem evDrawn_cons {call : CallT} {ops : Array Oper} {ms : Tr Nat} {H₀ : Hp} {o : Oper} {rest : List Oper} {k : Nat} {s s'' : S} {g g'' : Log} (h : evDrawn P call ops ms H₀ (o :: rest) k s g = some (s'', g'')) :
    ∃ s' g', DStep P call ops ms H₀ k o s g s' g' ∧ evDrawn P call ops ms H₀ rest (k + 1) s' g' = some (s'', g'') := by
  obtain ⟨T, N, H, nx, wr, df, mx⟩ := s
  obtain ⟨ds, hs, fs⟩ := g
  simp only [evDrawn] at h
  cases hw : want ops T o with
  | none => simp [hw] at h
  | some b =>
    cases b with
    | false =>
      simp only [hw] at h
      cases hp : putT T N o.dst (.tup []) with
      | none => simp [hp] at h
      | some T' =>
        simp only [hp, nN_eq] at h
        exact ⟨⟨T', N, H, nx, wr, df, mx⟩, ⟨ds, hs, fs⟩, .inl ⟨hw, hp, rfl, rfl, rfl, ⟨rfl, rfl⟩, rfl⟩, h⟩
    | true =>
      simp only [hw] at h
      cases hm : ms.get k with
      | none => simp [hm] at h
      | some m =>
        simp only [hm, Tr.force_eq] at h
        cases he : evOp P call T (scopeOf T m.testBit H₀ ds o.op) nx o.op with
        | none => simp [he] at h
        | some r =>
          obtain ⟨⟨v, H', nx', wr'⟩, m'⟩ := r
          simp only [he] at h
          cases hb : (Nat.ble nx nx' && Nat.ble nx' m' && allIn (scopeOf T m.testBit H₀ ds o.op) nx wr' && quietWith m (scopeOf T m.testBit H₀ ds o.op) (below nx wr') fs hs)
          · simp [hb] at h
          · simp only [hb, cond_true] at h
            simp only [Bool.and_eq_true] at hb
            cases hp : putT T N o.dst v with
            | none => simp [hp] at h
            | some T' =>
              simp only [hp, nN_eq] at h
              exact ⟨⟨T', N, H, m', addW wr' wr, df, mx⟩, _, .inr ⟨hw, m, ⟨⟨v, H', nx', wr'⟩, m'⟩, hm, he, ⟨by simpa using hb.1.1.1, by simpa using hb.1.1.2⟩, hb.1.2, hb.2, hp, rfl, rfl, rfl, ⟨rfl, rfl⟩, rfl⟩, h⟩
/-- All of them. -/
theorem drawn_run {call : CallT} {ops : Array Oper} {ms : Tr Nat} {H₀ : Hp} : ∀ {l : List Oper} {k : Nat} {s s'' : S} {g g'' : Log}, evDrawn P call ops ms H₀ l k s g = some (s'', g'') →
    ∃ (σ : Nat → S) (γ : Nat → Log), σ k = s ∧ γ k = g ∧ σ (k + l.length) = s'' ∧ γ (k + l.length) = g'' ∧ ∀ i o, l[i]? = some o → DStep P call ops ms H₀ (k + i) o (σ (k + i)) (γ (k + i)) (σ (k + i + 1)) (γ (k + i + 1))
  | [], k, s, s'', g, g'', h => by
    simp [evDrawn] at h
    obtain ⟨rfl, rfl⟩ := h
    exact ⟨fun _ => s, fun _ => g, rfl, rfl, rfl, rfl, fun i o h => by simp at h⟩
  | o :: l, k, s, s'', g, g'', h => by
    obtain ⟨s', g', hd, h'⟩ := evDrawn_cons h
    obtain ⟨σ, γ, h1, h2, h3, h4, h5⟩ := drawn_run h'
    refine ⟨fun j => if j ≤ k then s else σ j, fun j => if j ≤ k then g else γ j, by simp, by simp, ?_, ?_, fun i x hx => ?_⟩
    · show (if k + (l.length + 1) ≤ k then s else σ (k + (l.length + 1))) = s''
      rw [if_neg (by omega), ← h3]; congr 1; omega
    · show (if k + (l.length + 1) ≤ k then g else γ (k + (l.length + 1))) = g''
      rw [if_neg (by omega), ← h4]; congr 1; omega
    · cases i with
      | zero =>
        simp at hx; subst hx
        simp only [Nat.add_zero, Nat.le_refl, if_true, show ¬ (k + 1 ≤ k) by omega, if_false, h1, h2]
        exact hd
      | succ i =>
        have := h5 i x (by simpa using hx)
        have e : k + (i + 1) = k + 1 + i := by omega
        simp only [e, show ¬ (k + 1 + i ≤ k) by omega, if_false, show ¬ (k + 1 + i + 1 ≤ k) by omega]
        exact this
end Go.Rx

set_option linter.unusedSimpArgs false
set_option linter.unusedVariables false
set_option linter.unusedSectionVars false
namespace Go.Rx
open Go
variable {P : Program}

/-- What an operation has changed. -/
noncomputable def Dl (on : Nat → Bool) (r : Nat → Out) (lo : Nat → Nat) (k : Nat) : Del := if on k then delta (r k).H (ap' (below (lo k) (r k).wr) (rng (lo k) ((r k).nx - lo k))) else []
/-- Memory behind those of the first operations that S names. -/
noncomputable def cont (H₀ : Hp) (on : Nat → Bool) (r : Nat → Out) (lo : Nat → Nat) (S : Nat → Bool) : Nat → Hp
  | 0 => H₀
  | k + 1 => if S k then applyD (cont H₀ on r lo S k) (Dl on r lo k) else cont H₀ on r lo S k
structure Found (P : Program) (call : CallT) (ops : Array Oper) (ms : Tr Nat) (H₀ : Hp) (N : Nat) (τ : Nat → Tr LV) (lo : Nat → Nat) (on : Nat → Bool) (Hk : Nat → Hp) (r : Nat → Out) : Prop where
  want_ : ∀ k o, ops[k]? = some o → want ops (τ k) o = some (on k)
  put_ : ∀ k o, ops[k]? = some o → putT (τ k) N o.dst (if on k then (r k).v else .tup []) = some (τ (k + 1))
  off : ∀ k, k < ops.size → on k = false → lo (k + 1) = lo k
  run : ∀ k o, ops[k]? = some o → on k = true → evOp P call (τ k) (Hk k) (lo k) o.op = some ⟨r k, lo (k + 1)⟩
  top : ∀ k, k < ops.size → on k = true → lo k ≤ (r k).nx ∧ (r k).nx ≤ lo (k + 1)
  mono : ∀ k, k < ops.size → lo k ≤ lo (k + 1)
  inn : ∀ k, k < ops.size → on k = true → ∀ id ∈ (r k).wr, lo k ≤ id ∨ ∃ o, (Hk k).get id = some o
  sub : ∀ k, k < ops.size → on k = true → ∀ id o, (Hk k).get id = some o → (cont H₀ on r lo (dep ms k) k).get id = some o
  quiet : ∀ k i, k < ops.size → i < k → on k = true → on i = true → dep ms k i = false → (∀ id ∈ (r i).wr, id < lo i → (Hk k).get id = none) ∧ (∀ id ∈ (r k).wr, id < lo k → (Hk i).get id = none)
theorem log_add (k : Nat) (H : Hp) (fo : List Nat) (D : Del) (g : Log) :
    (∀ S H₀, heapOf S H₀ (Log.add k H fo D g).ds = if S k then applyD (heapOf S H₀ g.ds) D else heapOf S H₀ g.ds) ∧ (H = .l ∨ (k, H) ∈ (Log.add k H fo D g).hs) ∧ (fo = [] ∨ (k, fo) ∈ (Log.add k H fo D g).fs) ∧
    (∀ x ∈ g.hs, x ∈ (Log.add k H fo D g).hs) ∧ (∀ x ∈ g.fs, x ∈ (Log.add k H fo D g).fs) := by
  obtain ⟨ds, hs, fs⟩ := g
  refine ⟨fun S H₀ => ?_, ?_, ?_, ?_, ?_⟩
  · cases D with
    | nil => simp [Log.add, applyD]
    | cons x l =>
      show heapOf S H₀ ((k, x :: l) :: ds) = _
      simp only [heapOf]
      cases S k <;> simp
  · cases H with
    | l => exact .inl rfl
    | n v a b => exact .inr (by simp [Log.add])
  · cases fo with
    | nil => exact .inl rfl
    | cons x l => exact .inr (by simp [Log.add])
  · intro x hx; cases H <;> simp [Log.add] <;> simp_all
  · intro x hx; cases fo <;> simp [Log.add] <;> simp_all
theorem found_of {call : CallT} {ops : Array Oper} {ms : Tr Nat} {H₀ : Hp} {s s'' : S} {g'' : Log} (hord : Order ops ms) (h : evDrawn P call ops ms H₀ ops.toList 0 s ⟨[], [], []⟩ = some (s'', g'')) :
    ∃ (τ : Nat → Tr LV) (lo : Nat → Nat) (on : Nat → Bool) (Hk : Nat → Hp) (r : Nat → Out), Found P call ops ms H₀ s.N τ lo on Hk r ∧ τ 0 = s.T ∧ lo 0 = s.nx ∧ τ ops.size = s''.T ∧ lo ops.size = s''.nx ∧ s''.N = s.N ∧ (s''.df = s.df ∧ s''.mx = s.mx) ∧
      (∀ id ∈ s.wr, id ∈ s''.wr) ∧ (∀ k, k < ops.size → on k = true → ∀ id ∈ (r k).wr, id ∈ s''.wr) ∧ heapOf (fun _ => true) H₀ g''.ds = cont H₀ on r lo (fun _ => true) ops.size := by
  obtain ⟨σ, γ, h1, h2, h3, h4, h5⟩ := drawn_run h
  simp only [Nat.zero_add, Array.length_toList] at h3 h4 h5
  have hex : ∀ k, ∃ x : Bool × Hp × Res × Nat, ∀ o, ops[k]? = some o →
      (x.1 = false ∧ want ops (σ k).T o = some false ∧ putT (σ k).T (σ k).N o.dst (.tup []) = some (σ (k + 1)).T ∧ (σ (k + 1)).N = (σ k).N ∧ (σ (k + 1)).nx = (σ k).nx ∧ (σ (k + 1)).wr = (σ k).wr ∧ ((σ (k + 1)).df = (σ k).df ∧ (σ (k + 1)).mx = (σ k).mx) ∧ γ (k + 1) = γ k) ∨
      (x.1 = true ∧ want ops (σ k).T o = some true ∧ ms.get k = some x.2.2.2 ∧ x.2.1 = scopeOf (σ k).T x.2.2.2.testBit H₀ (γ k).ds o.op ∧ evOp P call (σ k).T x.2.1 (σ k).nx o.op = some x.2.2.1 ∧ ((σ k).nx ≤ x.2.2.1.o.nx ∧ x.2.2.1.o.nx ≤ x.2.2.1.mx) ∧
        allIn x.2.1 (σ k).nx x.2.2.1.o.wr = true ∧ quietWith x.2.2.2 x.2.1 (below (σ k).nx x.2.2.1.o.wr) (γ k).fs (γ k).hs = true ∧
        putT (σ k).T (σ k).N o.dst x.2.2.1.o.v = some (σ (k + 1)).T ∧ (σ (k + 1)).N = (σ k).N ∧ (σ (k + 1)).nx = x.2.2.1.mx ∧ (σ (k + 1)).wr = addW x.2.2.1.o.wr (σ k).wr ∧ ((σ (k + 1)).df = (σ k).df ∧ (σ (k + 1)).mx = (σ k).mx) ∧
        γ (k + 1) = Log.add k x.2.1 (below (σ k).nx x.2.2.1.o.wr) (delta x.2.2.1.o.H (ap' (below (σ k).nx x.2.2.1.o.wr) (rng (σ k).nx (x.2.2.1.o.nx - (σ k).nx)))) (γ k)) := fun k => by
    cases ho : ops[k]? with
    | none => exact ⟨(false, .l, ⟨⟨.nilp, .l, 0, []⟩, 0⟩, 0), fun o h => by cases h⟩
    | some o =>
      rcases h5 k o (by simpa using ho) with ⟨a1, a2, a3, a4, a5, a6, a7⟩ | ⟨a1, m, r, b1, b2, b3, b4, b5, b6, b7, b8, b9, b10, b11⟩
      · exact ⟨(false, .l, ⟨⟨.nilp, .l, 0, []⟩, 0⟩, 0), fun o' h => by cases h; exact .inl ⟨rfl, a1, a2, a3, a4, a5, a6, a7⟩⟩
      · exact ⟨(true, _, r, m), fun o' h => by cases h; exact .inr ⟨rfl, a1, b1, rfl, b2, b3, b4, b5, b6, b7, b8, b9, b10, b11⟩⟩
  obtain ⟨f, hf⟩ := Classical.axiomOfChoice hex
  have ex : ∀ {k}, k < ops.size → ∃ o, ops[k]? = some o := fun {k} hk => ⟨ops[k], by simp [hk]⟩
  have hN : ∀ k, k ≤ ops.size → (σ k).N = s.N := fun k => by
    induction k with
    | zero => intro _; rw [h1]
    | succ k ih =>
      intro hk
      obtain ⟨o, ho⟩ := ex (show k < ops.size by omega)
      rcases hf k o ho with ⟨_, _, _, e, _⟩ | ⟨_, _, _, _, _, _, _, _, _, e, _⟩ <;> rw [e, ih (by omega)]
  have hdf : ∀ k, k ≤ ops.size → (σ k).df = s.df ∧ (σ k).mx = s.mx := fun k => by
    induction k with
    | zero => intro _; rw [h1]; exact ⟨rfl, rfl⟩
    | succ k ih =>
      intro hk
      obtain ⟨o, ho⟩ := ex (show k < ops.size by omega)
      obtain ⟨i1, i2⟩ := ih (by omega)
      rcases hf k o ho with ⟨_, _, _, _, _, _, e, _⟩ | ⟨_, _, _, _, _, _, _, _, _, _, _, _, e, _⟩ <;> rw [e.1, e.2, i1, i2] <;> exact ⟨rfl, rfl⟩
  have hwr : ∀ j k, k ≤ ops.size → j ≤ k → ∀ id ∈ (σ j).wr, id ∈ (σ k).wr := fun j k => by
    induction k with
    | zero => intro _ hj id hi; rwa [show j = 0 by omega] at hi
    | succ k ih =>
      intro hk hj id hi
      by_cases e : j = k + 1
      · rw [← e]; exact hi
      · obtain ⟨o, ho⟩ := ex (show k < ops.size by omega)
        have := ih (by omega) (by omega) id hi
        rcases hf k o ho with ⟨_, _, _, _, _, e, _⟩ | ⟨_, _, _, _, _, _, _, _, _, _, _, e, _⟩
        · rw [e]; exact this
        · rw [e]; exact mem_addW.2 (.inr this)
  have hlog : ∀ k, k ≤ ops.size → (∀ S, heapOf S H₀ (γ k).ds = cont H₀ (fun k => (f k).1) (fun k => (f k).2.2.1.o) (fun k => (σ k).nx) S k) ∧
      (∀ i, i < k → (f i).1 = true → (f i).2.1 = .l ∨ (i, (f i).2.1) ∈ (γ k).hs) ∧ (∀ i, i < k → (f i).1 = true → below (σ i).nx (f i).2.2.1.o.wr = [] ∨ (i, below (σ i).nx (f i).2.2.1.o.wr) ∈ (γ k).fs) := fun k => by
    induction k with
    | zero => intro _; rw [h2]; exact ⟨fun S => rfl, fun i h => by omega, fun i h => by omega⟩
    | succ k ih =>
      intro hk
      obtain ⟨i1, i2, i3⟩ := ih (by omega)
      obtain ⟨o, ho⟩ := ex (show k < ops.size by omega)
      rcases hf k o ho with ⟨e1, _, _, _, _, _, _, eg⟩ | ⟨e1, _, _, _, _, _, _, _, _, _, en, _, _, eg⟩
      · rw [eg]
        refine ⟨fun S => ?_, fun i hi hon => ?_, fun i hi hon => ?_⟩
        · rw [i1, cont, Dl]; simp [e1, applyD]
        · by_cases e : i = k
          · subst e; exact absurd (e1.symm.trans hon) (by simp)
          · exact i2 i (by omega) hon
        · by_cases e : i = k
          · subst e; exact absurd (e1.symm.trans hon) (by simp)
          · exact i3 i (by omega) hon
      · obtain ⟨g1, g2, g3, g4, g5⟩ := log_add k (f k).2.1 (below (σ k).nx (f k).2.2.1.o.wr) (delta (f k).2.2.1.o.H (ap' (below (σ k).nx (f k).2.2.1.o.wr) (rng (σ k).nx ((f k).2.2.1.o.nx - (σ k).nx)))) (γ k)
        rw [← eg] at g1 g2 g3 g4 g5
        refine ⟨fun S => ?_, fun i hi hon => ?_, fun i hi hon => ?_⟩
        · rw [g1, i1, cont, Dl]; simp only [e1, if_true]
        · by_cases e : i = k
          · subst e; exact g2
          · exact (i2 i (by omega) hon).imp_right (g4 _)
        · by_cases e : i = k
          · subst e; exact g3
          · exact (i3 i (by omega) hon).imp_right (g5 _)
  refine ⟨fun k => (σ k).T, fun k => (σ k).nx, fun k => (f k).1, fun k => (f k).2.1, fun k => (f k).2.2.1.o, ⟨fun k o ho => ?_, fun k o ho => ?_, fun k hk hon => ?_, fun k o ho hon => ?_, fun k hk hon => ?_, fun k hk => ?_, fun k hk hon => ?_, fun k hk hon => ?_, fun k i hk hik hon honi hd => ?_⟩,
    congrArg S.T h1, congrArg S.nx h1, congrArg S.T h3, congrArg S.nx h3, by rw [← h3]; exact hN _ (Nat.le_refl _), by rw [← h3]; exact hdf _ (Nat.le_refl _), ?_, fun k hk hon => ?_, ?_⟩
  · rcases hf k o ho with ⟨e1, e2, _⟩ | ⟨e1, e2, _⟩ <;> rw [e2, e1]
  · have hk : k < ops.size := (Array.getElem?_eq_some_iff.1 ho).1
    rcases hf k o ho with ⟨e1, _, e3, _⟩ | ⟨e1, _, _, _, _, _, _, _, e3, _⟩
    · simp only [e1]; rw [hN k (by omega)] at e3; exact e3
    · simp only [e1]; rw [hN k (by omega)] at e3; exact e3
  · obtain ⟨o, ho⟩ := ex hk
    rcases hf k o ho with ⟨_, _, _, _, e, _⟩ | ⟨e1, _⟩
    · exact e
    · exact absurd (e1.symm.trans hon) (by simp)
  · rcases hf k o ho with ⟨e1, _⟩ | ⟨_, _, _, _, e, _, _, _, _, _, en, _⟩
    · exact absurd (e1.symm.trans hon) (by simp)
    · show evOp P call (σ k).T (f k).2.1 (σ k).nx o.op = some ⟨(f k).2.2.1.o, (σ (k + 1)).nx⟩
      rw [en]; exact e
  · obtain ⟨o, ho⟩ := ex hk
    rcases hf k o ho with ⟨e1, _⟩ | ⟨_, _, _, _, _, hle, _, _, _, _, en, _⟩
    · exact absurd (e1.symm.trans hon) (by simp)
    · show (σ k).nx ≤ (f k).2.2.1.o.nx ∧ (f k).2.2.1.o.nx ≤ (σ (k + 1)).nx
      rw [en]; exact hle
  · obtain ⟨o, ho⟩ := ex hk
    rcases hf k o ho with ⟨_, _, _, _, e, _⟩ | ⟨_, _, _, _, _, hle, _, _, _, _, en, _⟩
    · simp only [e]; exact Nat.le_refl _
    · simp only [en]; exact Nat.le_trans hle.1 hle.2
  · obtain ⟨o, ho⟩ := ex hk
    rcases hf k o ho with ⟨e1, _⟩ | ⟨_, _, _, _, _, _, ha, _⟩
    · exact absurd (e1.symm.trans hon) (by simp)
    · exact allIn_ok ha
  · obtain ⟨o, ho⟩ := ex hk
    rcases hf k o ho with ⟨e1, _⟩ | ⟨_, _, em, eH, _⟩
    · exact absurd (e1.symm.trans hon) (by simp)
    · intro id ob hg
      have e : dep ms k = (f k).2.2.2.testBit := by funext i; simp [dep, em]
      rw [e, ← (hlog k (by omega)).1]
      simp only [eH] at hg
      exact scope_ok hg
  · obtain ⟨o, ho⟩ := ex hk
    rcases hf k o ho with ⟨e1, _⟩ | ⟨_, _, em, eH, _, _, _, hq, _⟩
    · exact absurd (e1.symm.trans hon) (by simp)
    · have hm : (f k).2.2.2.testBit i = false := by simpa [dep, em] using hd
      obtain ⟨_, i2, i3⟩ := hlog k (by omega)
      simp only [quietWith, Bool.and_eq_true] at hq
      refine ⟨fun id hi hlt => ?_, fun id hi hlt => ?_⟩
      · have hmem : id ∈ below (σ i).nx (f i).2.2.1.o.wr := mem_below.2 ⟨hi, hlt⟩
        rcases i3 i hik honi with e | hin
        · rw [e] at hmem; cases hmem
        · exact noneSees_ok hq.1 i _ hin hm id hmem
      · have hmem : id ∈ below (σ k).nx (f k).2.2.1.o.wr := mem_below.2 ⟨hi, hlt⟩
        rcases i2 i hik honi with e | hin
        · simp only [e]; exact Tr.get_l _
        · have hq2 : seenByNone (f k).2.2.2 (below (σ k).nx (f k).2.2.1.o.wr) (γ k).hs = true := by
            have := hq.2
            cases hbl : below (σ k).nx (f k).2.2.1.o.wr with
            | nil => rw [hbl] at hmem; cases hmem
            | cons x l => rw [hbl] at this; exact this
          exact seenByNone_ok hq2 i _ hin hm id hmem
  · rw [← h3, ← h1]; exact hwr 0 ops.size (Nat.le_refl _) (Nat.zero_le _)
  · obtain ⟨o, ho⟩ := ex hk
    intro id hi
    rw [← h3]
    refine hwr (k + 1) ops.size (Nat.le_refl _) (by omega) id ?_
    rcases hf k o ho with ⟨e1, _⟩ | ⟨_, _, _, _, _, _, _, _, _, _, _, ew, _⟩
    · exact absurd (e1.symm.trans hon) (by simp)
    · rw [ew]; exact mem_addW.2 (.inl hi)
  · rw [← h4]; exact (hlog ops.size (Nat.le_refl _)).1 _
end Go.Rx

set_option linter.unusedSimpArgs false
set_option linter.unusedVariables false
set_option linter.unusedSectionVars false
namespace Go.Rx
open Go
variable {P : Program} {call : CallT} {ops : Array Oper} {ms : Tr Nat} {H₀ : Hp} {N : Nat} {τ : Nat → Tr LV} {lo : Nat → Nat} {on : Nat → Bool} {Hk : Nat → Hp} {r : Nat → Out}

def dstOf (ops : Array Oper) (k : Nat) : Option Tmp := (ops[k]?).bind (·.dst)
def valOf (on : Nat → Bool) (r : Nat → Out) (k : Nat) : LV := if on k then (r k).v else .tup []
/-- What a temporary holds behind those of the first operations that S names. -/
noncomputable def tm (ops : Array Oper) (on : Nat → Bool) (r : Nat → Out) (T₀ : Tr LV) (S : Nat → Bool) : Nat → Nat → Option LV
  | 0, t => T₀.get t
  | k + 1, t => if S k = true ∧ dstOf ops k = some t then some (valOf on r k) else tm ops on r T₀ S k t
def key (on : Nat → Bool) (r : Nat → Out) (lo : Nat → Nat) (k id : Nat) : Prop := on k = true ∧ ((id ∈ (r k).wr ∧ id < lo k) ∨ (lo k ≤ id ∧ id < (r k).nx))
def Closed (ops : Array Oper) (ms : Tr Nat) (S : Nat → Bool) : Prop := ∀ k i, k < ops.size → S k = true → dep ms k i = true → S i = true

theorem ex_op {k : Nat} (hk : k < ops.size) : ∃ o, ops[k]? = some o := ⟨ops[k], by simp [hk]⟩
theorem dstOf_some {k : Nat} {o : Oper} (ho : ops[k]? = some o) : dstOf ops k = o.dst := by simp [dstOf, ho]
theorem putT_get {T T' : Tr LV} {dst : Option Tmp} {lv : LV} (h : putT T N dst lv = some T') (t : Nat) : T'.get t = if dst = some t then some lv else T.get t := by
  cases dst with
  | none => simp [putT] at h; subst h; simp
  | some d =>
    unfold putT at h
    cases hb : Nat.blt d N
    · simp [hb] at h
    · simp [hb, Tr.force_eq] at h; subst h
      rw [Tr.get_set]
      by_cases e : t = d
      · subst e; simp
      · rw [if_neg e, if_neg (by intro h; cases h; exact e rfl)]
theorem tm_all (hF : Found P call ops ms H₀ N τ lo on Hk r) : ∀ k, k ≤ ops.size → ∀ t, (τ k).get t = tm ops on r (τ 0) (fun _ => true) k t := fun k => by
  induction k with
  | zero => intro _ t; rfl
  | succ k ih =>
    intro hk t
    obtain ⟨o, ho⟩ := ex_op (show k < ops.size by omega)
    rw [putT_get (hF.put_ k o ho) t, tm, dstOf_some ho]
    simp only [true_and]
    rw [ih (by omega) t]; rfl
theorem get_cont (k id : Nat) (S : Nat → Bool) : (cont H₀ on r lo S (k + 1)).get id = (open Classical in if S k = true ∧ key on r lo k id then (r k).H.get id else (cont H₀ on r lo S k).get id) := by
  classical
  rw [cont]
  by_cases hS : S k = true
  · rw [if_pos hS, Dl]
    by_cases ho : on k = true
    · rw [if_pos ho, get_applyD]
      have : id ∈ ap' (below (lo k) (r k).wr) (rng (lo k) ((r k).nx - lo k)) ↔ key on r lo k id := by
        rw [ap'_eq, List.mem_append, mem_below, mem_rng, key]
        constructor
        · rintro (h | h)
          · exact ⟨ho, .inl h⟩
          · exact ⟨ho, .inr ⟨h.1, by omega⟩⟩
        · rintro ⟨_, h | h⟩
          · exact .inl h
          · exact .inr ⟨h.1, by omega⟩
      by_cases hm : id ∈ ap' (below (lo k) (r k).wr) (rng (lo k) ((r k).nx - lo k))
      · rw [if_pos hm, if_pos ⟨hS, this.1 hm⟩]
      · rw [if_neg hm, if_neg (fun h => hm (this.2 h.2))]
    · rw [if_neg ho, if_neg (fun h => ho h.2.1)]; rfl
  · rw [if_neg hS, if_neg (fun h => hS h.1)]
theorem cont_some {S : Nat → Bool} {id : Nat} {o : LO} : ∀ {k : Nat}, (cont H₀ on r lo S k).get id = some o → H₀.get id = some o ∨ ∃ j, j < k ∧ S j = true ∧ key on r lo j id
  | 0, h => .inl h
  | k + 1, h => by
    classical
    rw [get_cont] at h
    by_cases hc : S k = true ∧ key on r lo k id
    · exact .inr ⟨k, by omega, hc.1, hc.2⟩
    · rw [if_neg hc] at h
      rcases cont_some h with h | ⟨j, h1, h2⟩
      · exact .inl h
      · exact .inr ⟨j, by omega, h2⟩
theorem lo_mono (hF : Found P call ops ms H₀ N τ lo on Hk r) {i j : Nat} (hij : i ≤ j) (hj : j ≤ ops.size) : lo i ≤ lo j := by
  induction j with
  | zero => rw [show i = 0 by omega]; exact Nat.le_refl _
  | succ j ih =>
    by_cases e : i = j + 1
    · rw [e]; exact Nat.le_refl _
    · exact Nat.le_trans (ih (by omega) (by omega)) (hF.mono j (by omega))
theorem own_unique (hF : Found P call ops ms H₀ N τ lo on Hk r) {i j id : Nat} (hi : i < ops.size) (hj : j < ops.size) (h1 : lo i ≤ id ∧ id < lo (i + 1)) (h2 : lo j ≤ id ∧ id < lo (j + 1)) : i = j := by
  rcases Nat.lt_trichotomy i j with h | h | h
  · have := lo_mono hF (show i + 1 ≤ j by omega) (by omega); omega
  · exact h
  · have := lo_mono hF (show j + 1 ≤ i by omega) (by omega); omega
/-- Who finds a new name of an operation's, waits for it. -/
theorem finds_waits (hF : Found P call ops ms H₀ N τ lo on Hk r) (hord : Order ops ms) (hfree : ∀ id, lo 0 ≤ id → id < lo ops.size → H₀.get id = none) {i id : Nat} (hi : i < ops.size) (hid : lo i ≤ id ∧ id < lo (i + 1)) :
    ∀ (j : Nat) (o : LO), j < ops.size → (cont H₀ on r lo (dep ms j) j).get id = some o → dep ms j i = true := fun j => by
  induction j using Nat.strongRecOn with
  | _ j ih =>
    intro o hj hc
    rcases cont_some hc with h | ⟨j', hj', hd, hon, hk⟩
    · have := lo_mono hF (show 0 ≤ i by omega) (by omega)
      have := lo_mono hF (show i + 1 ≤ ops.size by omega) (by omega)
      rw [hfree id (by omega) (by omega)] at h; cases h
    · rcases hk with ⟨hw, hlt⟩ | hown
      · rcases hF.inn j' (by omega) hon id hw with h | ⟨o', h⟩
        · omega
        · exact hord.trans hj hd (ih j' hj' o' (by omega) (hF.sub j' (by omega) hon id o' h))
      · rw [own_unique hF hi (by omega) hid ⟨hown.1, by have := (hF.top j' (by omega) hon).2; omega⟩]; exact hd
section
variable {S : Nat → Bool} {k : Nat} (hF : Found P call ops ms H₀ N τ lo on Hk r) (hord : Order ops ms) (hcl : Closed ops ms S) (hk : k < ops.size) (hS : S k = false) (hdep : ∀ i, dep ms k i = true → S i = true)
include hF hord hcl hk hS hdep
/-- An operation that has come up and one that comes up now: which waits for which. -/
theorem not_dep {i : Nat} (hi : i < ops.size) (hSi : S i = true) : dep ms i k = false := by
  cases hd : dep ms i k with
  | false => rfl
  | true => rw [hcl i k hi hSi hd] at hS; cases hS
theorem looks_same {o : Oper} (ho : ops[k]? = some o) {t : Nat} (ht : t ∈ o.looksAt ops) : tm ops on r (τ 0) S ops.size t = (τ k).get t := by
  have hw : ∀ i, i < ops.size → dstOf ops i = some t → (S i = true ↔ i < k) := fun i hi hd => by
    obtain ⟨oi, hoi⟩ := ex_op hi
    rw [dstOf_some hoi] at hd
    constructor
    · intro hSi
      have hne : i ≠ k := fun e => by rw [e, hS] at hSi; cases hSi
      rcases Nat.lt_or_ge i k with h | h
      · exact h
      · have hap := hord.apart hoi ho (show k < i by omega) (not_dep hF hord hcl hk hS hdep hi hSi)
        exact absurd ht ((Oper.apart_spec hap).2.2 t hd)
    · intro hlt
      cases hdk : dep ms k i with
      | true => exact hdep i hdk
      | false => exact absurd ht ((Oper.apart_spec (hord.apart ho hoi hlt hdk)).1 t hd)
  have key : ∀ j, j ≤ ops.size → tm ops on r (τ 0) S j t = tm ops on r (τ 0) (fun _ => true) (min j k) t := fun j => by
    induction j with
    | zero => intro _; rw [Nat.zero_min]; rfl
    | succ j ih =>
      intro hj
      rw [tm]
      by_cases hd : dstOf ops j = some t
      · have := hw j (by omega) hd
        by_cases hjk : j < k
        · rw [if_pos ⟨this.2 hjk, hd⟩, show min (j + 1) k = j + 1 by omega, tm, if_pos ⟨rfl, hd⟩]
        · rw [if_neg (fun h => hjk (this.1 h.1)), ih (by omega), show min (j + 1) k = k by omega, show min j k = k by omega]
      · rw [if_neg (fun h => hd h.2), ih (by omega)]
        by_cases hjk : j < k
        · rw [show min (j + 1) k = j + 1 by omega, show min j k = j by omega, tm, if_neg (fun h => hd h.2)]
        · rw [show min (j + 1) k = k by omega, show min j k = k by omega]
  rw [key ops.size (Nat.le_refl _), show min ops.size k = k by omega, ← tm_all hF k (by omega)]
theorem put_same {o : Oper} (ho : ops[k]? = some o) {S' : Nat → Bool} (hS' : ∀ i, S' i = if i = k then true else S i) (t : Nat) :
    tm ops on r (τ 0) S' ops.size t = if o.dst = some t then some (valOf on r k) else tm ops on r (τ 0) S ops.size t := by
  have h1 : ∀ j, j ≤ k → tm ops on r (τ 0) S' j t = tm ops on r (τ 0) S j t := fun j => by
    induction j with
    | zero => intro _; rfl
    | succ j ih =>
      intro hj
      have e : S' j = S j := by rw [hS' j, if_neg (by omega)]
      rw [tm, tm, ih (by omega), e]
  have h2 : ∀ j, k < j → j ≤ ops.size → tm ops on r (τ 0) S' j t = if o.dst = some t then some (valOf on r k) else tm ops on r (τ 0) S j t := fun j => by
    induction j with
    | zero => intro h; omega
    | succ j ih =>
      intro hj hjn
      by_cases e : j = k
      · subst e
        rw [tm, hS' j, if_pos rfl, dstOf_some ho, tm, hS, h1 j (Nat.le_refl _)]
        simp
      · have hkj : k < j := by omega
        rw [tm, hS' j, if_neg e, tm, ih hkj (by omega)]
        by_cases hd : o.dst = some t
        · have : ¬ (S j = true ∧ dstOf ops j = some t) := fun ⟨hSj, hdj⟩ => by
            obtain ⟨oj, hoj⟩ := ex_op (show j < ops.size by omega)
            rw [dstOf_some hoj] at hdj
            have hap := hord.apart hoj ho hkj (not_dep hF hord hcl hk hS hdep (by omega) hSj)
            exact (Oper.apart_spec hap).2.1 t hd hdj
          rw [if_neg this, if_pos hd, if_pos hd]
        · rw [if_neg hd, if_neg hd]
  exact h2 ops.size hk (Nat.le_refl _)
theorem heap_same (hfree : ∀ id, lo 0 ≤ id → id < lo ops.size → H₀.get id = none) (hon : on k = true) {id : Nat} {o : LO} (h : (Hk k).get id = some o) : (cont H₀ on r lo S ops.size).get id = some o := by
  classical
  have hc := hF.sub k hk hon id o h
  have hw : ∀ i, i < ops.size → key on r lo i id → (S i = true ↔ (i < k ∧ dep ms k i = true)) := fun i hi hkey => by
    constructor
    · intro hSi
      have hne : i ≠ k := fun e => by rw [e, hS] at hSi; cases hSi
      have hnd := not_dep hF hord hcl hk hS hdep hi hSi
      have hd : dep ms k i = true := by
        cases hd : dep ms k i with
        | true => rfl
        | false =>
          obtain ⟨honi, hw | hown⟩ := hkey
          · rcases Nat.lt_or_ge i k with hlt | hge
            · rw [(hF.quiet k i hk hlt hon honi hd).1 id hw.1 hw.2] at h; cases h
            · rw [(hF.quiet i k hi (by omega) honi hon hnd).2 id hw.1 hw.2] at h; cases h
          · have := finds_waits hF hord hfree hi ⟨hown.1, by have := (hF.top i hi honi).2; omega⟩ k o hk hc
            rw [hd] at this; cases this
      exact ⟨hord.lt hk hd, hd⟩
    · rintro ⟨_, hd⟩; exact hdep i hd
  have key' : ∀ j, j ≤ ops.size → (cont H₀ on r lo S j).get id = (cont H₀ on r lo (dep ms k) (min j k)).get id := fun j => by
    induction j with
    | zero => intro _; rw [Nat.zero_min]; rfl
    | succ j ih =>
      intro hj
      rw [get_cont]
      by_cases hkey : key on r lo j id
      · have := hw j (by omega) hkey
        by_cases hSj : S j = true
        · obtain ⟨hjk, hd⟩ := this.1 hSj
          rw [if_pos ⟨hSj, hkey⟩, show min (j + 1) k = j + 1 by omega, get_cont, if_pos ⟨hd, hkey⟩]
        · rw [if_neg (fun h => hSj h.1), ih (by omega)]
          by_cases hjk : j < k
          · have hd : dep ms k j ≠ true := fun hd => hSj (this.2 ⟨hjk, hd⟩)
            rw [show min (j + 1) k = j + 1 by omega, show min j k = j by omega, get_cont, if_neg (fun h => hd h.1)]
          · rw [show min (j + 1) k = k by omega, show min j k = k by omega]
      · rw [if_neg (fun h => hkey h.2), ih (by omega)]
        by_cases hjk : j < k
        · rw [show min (j + 1) k = j + 1 by omega, show min j k = j by omega, get_cont, if_neg (fun h => hkey h.2)]
        · rw [show min (j + 1) k = k by omega, show min j k = k by omega]
  rw [key' ops.size (Nat.le_refl _), show min ops.size k = k by omega]
  exact hc
open Classical in
theorem heap_put (hfree : ∀ id, lo 0 ≤ id → id < lo ops.size → H₀.get id = none) {S' : Nat → Bool} (hS' : ∀ i, S' i = if i = k then true else S i) (id : Nat) :
    (cont H₀ on r lo S' ops.size).get id = if key on r lo k id then (r k).H.get id else (cont H₀ on r lo S ops.size).get id := by
  have h1 : ∀ j, j ≤ k → (cont H₀ on r lo S' j).get id = (cont H₀ on r lo S j).get id := fun j => by
    induction j with
    | zero => intro _; rfl
    | succ j ih =>
      intro hj
      have e : S' j = S j := by rw [hS' j, if_neg (by omega)]
      rw [get_cont, get_cont, ih (by omega), e]
  have hnot : ∀ j, k < j → j < ops.size → S j = true → key on r lo k id → key on r lo j id → False := fun j hkj hj hSj hkk hkj' => by
    have hnd := not_dep hF hord hcl hk hS hdep hj hSj
    obtain ⟨honk, hkk⟩ := hkk
    obtain ⟨honj, hkj'⟩ := hkj'
    have hm := lo_mono hF (show k + 1 ≤ j by omega) (by omega)
    have hm' := hF.mono k hk
    rcases hkj' with ⟨hwj, hltj⟩ | hownj
    · rcases hF.inn j hj honj id hwj with h | ⟨o', h⟩
      · omega
      · rcases hkk with ⟨hwk, hltk⟩ | hownk
        · have := (hF.quiet j k hj hkj honj honk hnd).1 id hwk hltk
          rw [this] at h; cases h
        · have := finds_waits hF hord hfree hk ⟨hownk.1, by have := (hF.top k hk honk).2; omega⟩ j o' hj (hF.sub j hj honj id o' h)
          rw [hnd] at this; cases this
    · rcases hkk with ⟨hwk, hltk⟩ | hownk
      · omega
      · have := own_unique hF hk hj ⟨hownk.1, by have := (hF.top k hk honk).2; omega⟩ ⟨hownj.1, by have := (hF.top j hj honj).2; omega⟩; omega
  have h2 : ∀ j, k < j → j ≤ ops.size → (cont H₀ on r lo S' j).get id = if key on r lo k id then (r k).H.get id else (cont H₀ on r lo S j).get id := fun j => by
    induction j with
    | zero => intro h; omega
    | succ j ih =>
      intro hj hjn
      by_cases e : j = k
      · subst e
        rw [get_cont, hS' j, if_pos rfl, get_cont, hS, h1 j (Nat.le_refl _)]
        simp
      · have hkj : k < j := by omega
        rw [get_cont, hS' j, if_neg e, get_cont, ih hkj (by omega)]
        by_cases hkk : key on r lo k id
        · rw [if_pos hkk, if_neg (fun h => hnot j hkj (by omega) h.1 hkk h.2), if_pos hkk]
        · rw [if_neg hkk, if_neg hkk]
  exact h2 ops.size hk (Nat.le_refl _)
end
end Go.Rx

set_option linter.unusedSimpArgs false
set_option linter.unusedVariables false
set_option linter.unusedSectionVars false
namespace Go.Rx
open Go
variable {P : Program}

theorem Rel.sub {R : Ren} {H H' : Hp} {w : World} (h : Rel R H w) (hs : ∀ id o, H'.get id = some o → H.get id = some o) : Rel R H' w :=
  ⟨fun id o ho => h.at_ id o (hs id o ho), fun id id' o o' b c c' h1 h2 => h.inj id id' o o' b c c' (hs id o h1) (hs id' o' h2)⟩
theorem Ext.stretch {R R' : Ren} {nx nx' m : Nat} {wr : List Nat} {w w' : World} (h : Ext R R' nx nx' wr w w') (hm : nx' ≤ m) (hf : Free R nx m) : Ext R R' nx m wr w w' := by
  refine ⟨h.le, fun id hid => h.out id (by omega), h.size, h.keep, fun id b c h1 h2 h3 => ?_, h.quiet⟩
  by_cases hlt : id < nx'
  · exact h.new id b c h1 hlt h3
  · rw [h.out id (.inr (by omega)), hf id h1 h2] at h3; cases h3
theorem fr_put {R : Ren} {N : Nat} {T T' : Tr LV} {dst : Option Tmp} {lv lv' : LV} {v : Value} {a : Act} {f g : Nat → Option LV} (hp : putT T N dst lv' = some T') (hs : a.tmps.size = N) (hf : ∀ t x, f t = some x → VR R x (a.tmps.getD t undef)) (hv : VR R lv v)
    (hg : ∀ t, g t = if dst = some t then some lv else f t) : (a.put dst v).tmps.size = N ∧ ∀ t x, g t = some x → VR R x ((a.put dst v).tmps.getD t undef) := by
  cases dst with
  | none => exact ⟨hs, fun t x hx => by rw [hg] at hx; simp at hx; exact hf t x hx⟩
  | some d =>
    have hd : d < N := by
      unfold putT at hp
      cases hb : Nat.blt d N
      · simp [hb] at hp
      · simpa using hb
    have hd' : d < a.tmps.size := by rw [hs]; exact hd
    refine ⟨by simp [Act.put, hs], fun t x hx => ?_⟩
    rw [hg] at hx
    by_cases e : d = t
    · subst e
      simp at hx; subst hx
      simpa [Act.put, hd'] using hv
    · rw [if_neg (by intro h; cases h; exact e rfl)] at hx
      have := hf t x hx
      simpa [Act.put, Array.getD_eq_getD_getElem?, Array.getElem?_setIfInBounds_ne e] using this
section
variable {call : CallT} {ops : Array Oper} {ms : Tr Nat} {H₀ : Hp} {N : Nat} {τ : Nat → Tr LV} {lo : Nat → Nat} {on : Nat → Bool} {Hk : Nat → Hp} {r : Nat → Out}
/-- What holds when just the operations that S names have come up. -/
structure Mid (ops : Array Oper) (H₀ : Hp) (N : Nat) (τ : Nat → Tr LV) (lo : Nat → Nat) (on : Nat → Bool) (r : Nat → Out) (R₀ : Ren) (WR df : List Nat) (w₀ : World) (S : Nat → Bool) (R : Ren) (a : Act) (w : World) : Prop where
  ext : Ext R₀ R (lo 0) (lo ops.size) WR w₀ w
  free : ∀ k, k < ops.size → S k = false → ∀ id, lo k ≤ id → id < lo (k + 1) → R id = none
  rel : Rel R (cont H₀ on r lo S ops.size) w
  size : a.tmps.size = N
  fr : ∀ t x, tm ops on r (τ 0) S ops.size t = some x → VR R x (a.tmps.getD t undef)
  df : DR R df a.defers
variable {R₀ : Ren} {WR df : List Nat} {w₀ : World} {S : Nat → Bool} {k : Nat}
theorem mid_step (hcall : CallOK P call) (hF : Found P call ops ms H₀ N τ lo on Hk r) (hord : Order ops ms) (hfree : ∀ id, lo 0 ≤ id → id < lo ops.size → H₀.get id = none) (hWR : ∀ k, k < ops.size → on k = true → ∀ id ∈ (r k).wr, id ∈ WR)
    (hcl : Closed ops ms S) (hk : k < ops.size) (hS : S k = false) (hdep : ∀ i, dep ms k i = true → S i = true) {S' : Nat → Bool} (hS' : ∀ i, S' i = if i = k then true else S i)
    {R : Ren} {a : Act} {w : World} (hm : Mid ops H₀ N τ lo on r R₀ WR df w₀ S R a w) {ro : Option Nat} {n : Nat} {Q : Exit → Act → World → Prop} :
    wpOpIn (Fw ro) n P ops Q k (fun a' w' => ∃ R', Mid ops H₀ N τ lo on r R₀ WR df w₀ S' R' a' w') a w := by
  classical
  obtain ⟨o, ho⟩ := ex_op hk
  have hFR : FR R N (only (τ k) (o.looksAt ops)) a.tmps := ⟨hm.size, fun t lv ht => by
    rw [get_only] at ht
    by_cases hl : t ∈ o.looksAt ops
    · rw [if_pos hl] at ht
      exact hm.fr t lv (by rw [looks_same hF hord hcl hk hS hdep ho hl]; exact ht)
    · rw [if_neg hl] at ht; cases ht⟩
  have hwant : Region.wanted o (yielded ops a.tmps) = on k := want_ok (by
    rw [want_congr (T' := τ k) (fun t ht => by rw [get_only, if_pos ht])]; exact hF.want_ k o ho) hFR
  have hput := put_same hF hord hcl hk hS hdep ho hS'
  have hheap := heap_put hF hord hcl hk hS hdep hfree hS'
  have hfree' : ∀ j, j < ops.size → S' j = false → j ≠ k ∧ S j = false := fun j _ hj => by
    rw [hS' j] at hj
    by_cases e : j = k
    · rw [if_pos e] at hj; cases hj
    · rw [if_neg e] at hj; exact ⟨e, hj⟩
  unfold wpOpIn
  simp only [ho, hwant]
  cases hon : on k with
  | false =>
    rw [if_neg (by simp)]
    refine ⟨fun _ _ => trivial, R, ?_⟩
    have hp := hF.put_ k o ho
    have hv : valOf on r k = .tup [] := by simp [valOf, hon]
    obtain ⟨h1, h2⟩ := fr_put hp hm.size hm.fr (lv := valOf on r k) (v := undef) (by rw [hv]; exact ⟨#[], rfl, rfl⟩) hput
    exact ⟨hm.ext, fun j hj hSj id => hm.free j hj (hfree' j hj hSj).2 id, hm.rel.sub fun id x hx => by
      rw [hheap, if_neg (by intro h; rw [h.1] at hon; cases hon)] at hx; exact hx, h1, h2, by rw [put_defers]; exact hm.df⟩
  | true =>
    rw [if_pos rfl]
    have hrun := hF.run k o ho hon
    have hrun' : evOp P call (only (τ k) (o.looksAt ops)) (Hk k) (lo k) o.op = some ⟨r k, lo (k + 1)⟩ := by
      rw [evOp_congr (T' := τ k) (fun x hx => evO_only hx)]; exact hrun
    have hsame := fun id x h => heap_same hF hord hcl hk hS hdep hfree hon (id := id) (o := x) h
    have hlo1 := lo_mono hF (Nat.zero_le k) (by omega)
    have hlo2 := lo_mono hF (show k + 1 ≤ ops.size by omega) (Nat.le_refl _)
    have hlok := hF.mono k hk
    refine evOp_ok hcall hFR (hm.rel.sub hsame) (fun id h1 h2 => hm.free k hk hS id h1 h2) hrun' ?_
    rintro v w' ⟨R', hx, hrel, hvr⟩
    replace hx := hx.stretch (hF.top k hk hon).2 (fun id h1 h2 => hm.free k hk hS id h1 h2)
    refine ⟨R', ?_⟩
    have hp := hF.put_ k o ho
    have hvv : valOf on r k = (r k).v := by simp [valOf, hon]
    obtain ⟨h1, h2⟩ := fr_put hp hm.size (fun t x hx' => (hm.fr t x hx').mono hx.le) (lv := valOf on r k) (v := v) (by rw [hvv]; exact hvr) hput
    have foreign : ∀ id ∈ (r k).wr, id < lo k → ∃ x, (cont H₀ on r lo S ops.size).get id = some x := fun id hi hlt => by
      rcases hF.inn k hk hon id hi with h | ⟨x, h⟩
      · omega
      · exact ⟨x, hsame id x h⟩
    have old : ∀ id x, ¬ key on r lo k id → (cont H₀ on r lo S ops.size).get id = some x → ∃ b c, R id = some (b, c) ∧ Holds R w b c x ∧ (∀ i ∈ (r k).wr, i < lo k → ∀ c', R i ≠ some (b, c')) := fun id x hnk hx' => by
      obtain ⟨b, c, hr, hh⟩ := hm.rel.at_ id x hx'
      refine ⟨b, c, hr, hh, fun i hi hlt c' hri => hnk ?_⟩
      obtain ⟨y, hy⟩ := foreign i hi hlt
      have := hm.rel.inj i id y x b c' c hy hx' hri hr
      subst this
      exact ⟨hon, .inl ⟨hi, hlt⟩⟩
    refine ⟨⟨hm.ext.le.trans hx.le, fun id hid => ?_, Nat.le_trans hm.ext.size hx.size, fun b hb hn => ?_, fun id b c hid1 hid2 hr => ?_, hm.ext.quiet.trans hx.quiet⟩, fun j hj hSj id hid1 hid2 => ?_, ⟨fun id x hx' => ?_, fun id id' x x' b c c' hx1 hx2 hr1 hr2 => ?_⟩, h1, h2, by rw [put_defers]; exact hm.df.mono hx.le⟩
    · rw [hx.out id (by omega), hm.ext.out id hid]
    · rw [hx.keep b (by have := hm.ext.size; omega) fun id hi hlt c hr => ?_, hm.ext.keep b hb hn]
      by_cases hn1 : id < lo 0
      · rw [hm.ext.out id (.inl hn1)] at hr; exact hn id (hWR k hk hon id hi) hn1 c hr
      · rcases hm.ext.new id b c (by omega) (by omega) hr with hb' | ⟨i, hi', hlt', c', hr'⟩
        · omega
        · exact hn i hi' hlt' c' hr'
    · by_cases hown : lo k ≤ id ∧ id < lo (k + 1)
      · rcases hx.new id b c hown.1 hown.2 hr with hb | ⟨i, hi, hlt, c', hr'⟩
        · exact .inl (Nat.le_trans hm.ext.size hb)
        · by_cases hn1 : i < lo 0
          · rw [hm.ext.out i (.inl hn1)] at hr'
            exact .inr ⟨i, hWR k hk hon i hi, hn1, c', hr'⟩
          · exact hm.ext.new i b c' (by omega) (by omega) hr'
      · rw [hx.out id (by omega)] at hr
        exact hm.ext.new id b c hid1 hid2 hr
    · obtain ⟨hne, hSj'⟩ := hfree' j hj hSj
      have hout : id < lo k ∨ lo (k + 1) ≤ id := by
        rcases Nat.lt_or_ge id (lo k) with h | h
        · exact .inl h
        · rcases Nat.lt_or_ge id (lo (k + 1)) with h' | h'
          · exact absurd (own_unique hF hj hk ⟨hid1, hid2⟩ ⟨h, h'⟩) hne
          · exact .inr h'
      rw [hx.out id hout]
      exact hm.free j hj hSj' id hid1 hid2
    · rw [hheap] at hx'
      by_cases hkey : key on r lo k id
      · rw [if_pos hkey] at hx'
        exact hrel.at_ id x hx'
      · rw [if_neg hkey] at hx'
        obtain ⟨b, c, hr, hh, hnot⟩ := old id x hkey hx'
        exact ⟨b, c, hx.le _ _ hr, (hh.kept (hx.keep b hh.lt hnot)).mono hx.le⟩
    · rw [hheap] at hx1 hx2
      have mixed : ∀ i j xi xj ci cj, key on r lo k i → ¬ key on r lo k j → (r k).H.get i = some xi → (cont H₀ on r lo S ops.size).get j = some xj → R' i = some (b, ci) → R' j = some (b, cj) → i = j := fun i j xi xj ci cj hki hkj hxi hxj hri hrj => by
        obtain ⟨bj, cj', hr, hh, hnot⟩ := old j xj hkj hxj
        rw [hx.le _ _ hr] at hrj; cases hrj
        exfalso
        obtain ⟨_, ⟨hw, hlt⟩ | hown⟩ := hki
        · rw [hx.out i (.inl hlt)] at hri; exact hnot i hw hlt ci hri
        · rcases hx.new i _ ci hown.1 (by have := (hF.top k hk hon).2; omega) hri with h | ⟨i', hi', hlt', c'', hr'⟩
          · have := hh.lt; omega
          · exact hnot i' hi' hlt' c'' hr'
      by_cases hk1 : key on r lo k id
      · rw [if_pos hk1] at hx1
        by_cases hk2 : key on r lo k id'
        · rw [if_pos hk2] at hx2
          exact hrel.inj id id' x x' b c c' hx1 hx2 hr1 hr2
        · rw [if_neg hk2] at hx2
          exact mixed id id' x x' c c' hk1 hk2 hx1 hx2 hr1 hr2
      · rw [if_neg hk1] at hx1
        by_cases hk2 : key on r lo k id'
        · rw [if_pos hk2] at hx2
          exact (mixed id' id x' x c' c hk2 hk1 hx2 hx1 hr2 hr1).symm
        · rw [if_neg hk2] at hx2
          obtain ⟨b1, c1, q1, _, _⟩ := old id x hk1 hx1
          obtain ⟨b2, c2, q2, _, _⟩ := old id' x' hk2 hx2
          rw [hx.le _ _ q1] at hr1; cases hr1
          rw [hx.le _ _ q2] at hr2; cases hr2
          exact hm.rel.inj id id' x x' _ _ _ hx1 hx2 q1 q2
theorem cont_congr {S S' : Nat → Bool} : ∀ {k : Nat}, (∀ i, i < k → S i = S' i) → cont H₀ on r lo S k = cont H₀ on r lo S' k
  | 0, _ => rfl
  | k + 1, h => by rw [cont, cont, h k (by omega), cont_congr fun i hi => h i (by omega)]
theorem tm_congr {S S' : Nat → Bool} {T₀ : Tr LV} {t : Nat} : ∀ {k : Nat}, (∀ i, i < k → S i = S' i) → tm ops on r T₀ S k t = tm ops on r T₀ S' k t
  | 0, _ => rfl
  | k + 1, h => by rw [tm, tm, h k (by omega), tm_congr fun i hi => h i (by omega)]
theorem any_ok (hcall : CallOK P call) (hF : Found P call ops ms H₀ N τ lo on Hk r) (hord : Order ops ms) (hfree : ∀ id, lo 0 ≤ id → id < lo ops.size → H₀.get id = none) (hWR : ∀ k, k < ops.size → on k = true → ∀ id ∈ (r k).wr, id ∈ WR)
    {ro : Option Nat} {n : Nat} {Q : Exit → Act → World → Prop} (hQ : ∀ R a w, Mid ops H₀ N τ lo on r R₀ WR df w₀ (fun _ => true) R a w → Q .normal a w) :
    ∀ (fuel : Nat) (listed : Array Bool) (L : List Nat) (R : Ren) (a : Act) (w : World), listed.size = ops.size → (∀ i, i < ops.size → listed.getD i false = false → i ∈ L) → L.length ≤ fuel → Closed ops ms (fun i => listed.getD i false) →
      Mid ops H₀ N τ lo on r R₀ WR df w₀ (fun i => listed.getD i false) R a w → wpAnyIn (Fw ro) n P .any ops Q fuel listed a w := by
  have fin : ∀ (listed : Array Bool) (R : Ren) (a : Act) (w : World), (∀ i, i < ops.size → listed.getD i false = true) → Mid ops H₀ N τ lo on r R₀ WR df w₀ (fun i => listed.getD i false) R a w → Q .normal a w := fun listed R a w hall hm => by
    refine hQ R a w ⟨hm.ext, (fun k hk h => by cases h), ?_, hm.size, fun t x hx => hm.fr t x ?_, hm.df⟩
    · rw [cont_congr (S' := fun i => listed.getD i false) (fun i hi => (hall i hi).symm)]; exact hm.rel
    · rw [tm_congr (S' := fun _ => true) (fun i hi => hall i hi)]; exact hx
  have rdy : ∀ (listed : Array Bool), listed.size = ops.size → Region.ready .any ops listed = [] → ∀ i, i < ops.size → listed.getD i false = true := fun listed hsz hr i => by
    induction i using Nat.strongRecOn with
    | _ i ih =>
      intro hi
      cases hl : listed.getD i false with
      | true => rfl
      | false =>
        exfalso
        obtain ⟨o, ho⟩ := ex_op hi
        have : i ∈ Region.ready .any ops listed := mem_ready.2 ⟨by
          rw [Array.getD_eq_getD_getElem?] at hl ⊢
          rw [Array.getElem?_eq_getElem (by omega)] at hl ⊢; exact hl, o, ho, fun e he hb => by
          have hlt := hord.lt hi (hord.edge ho e he hb)
          exact ih e.on hlt (by omega)⟩
        rw [hr] at this; cases this
  intro fuel
  induction fuel with
  | zero =>
    intro listed L R a w hsz hL hlen hcl hm
    have hall : ∀ i, i < ops.size → listed.getD i false = true := fun i hi => by
      cases hl : listed.getD i false with
      | true => rfl
      | false =>
        have := hL i hi hl
        rw [List.length_eq_zero_iff.1 (Nat.le_zero.1 hlen)] at this; cases this
    refine ⟨?_, fin listed R a w hall hm⟩
    cases hr : Region.ready .any ops listed with
    | nil => rfl
    | cons x l =>
      have hx : x ∈ Region.ready .any ops listed := by rw [hr]; simp
      obtain ⟨h1, o, ho, _⟩ := mem_ready.1 hx
      have hx' : x < ops.size := (Array.getElem?_eq_some_iff.1 ho).1
      have := hall x hx'
      rw [Array.getD_eq_getD_getElem?, Array.getElem?_eq_getElem (by omega)] at this h1
      simp at this h1; rw [this] at h1; cases h1
  | succ fuel ih =>
    intro listed L R a w hsz hL hlen hcl hm
    refine ⟨fun hr => fin listed R a w (rdy listed hsz hr) hm, fun i hi => ?_⟩
    obtain ⟨h1, o, ho, hall⟩ := mem_ready.1 hi
    have hlt : i < ops.size := (Array.getElem?_eq_some_iff.1 ho).1
    have hSi : listed.getD i false = false := by
      rw [Array.getD_eq_getD_getElem?, Array.getElem?_eq_getElem (by omega)] at h1 ⊢; exact h1
    have hdep : ∀ j, dep ms i j = true → listed.getD j false = true := fun j hd => by
      obtain ⟨e, he, hb, h | h⟩ := hord.edges ho hd
      · rw [← h]; exact hall e he hb
      · exact hcl e.on j (Nat.lt_trans (hord.lt hlt (hord.edge ho e he hb)) hlt) (hall e he hb) h
    have hS' : ∀ j, (listed.setIfInBounds i true).getD j false = if j = i then true else listed.getD j false := fun j => by
      by_cases e : j = i
      · subst e; rw [if_pos rfl]; simp [hsz, hlt]
      · rw [if_neg e]; exact getD_set_ne false (Ne.symm e)
    refine wpOpIn_mono ?_ (mid_step (S := fun i => listed.getD i false) hcall hF hord hfree hWR hcl hlt hSi hdep (S' := fun j => (listed.setIfInBounds i true).getD j false) hS' hm)
    rintro a' w' ⟨R', hm'⟩
    refine ih (listed.setIfInBounds i true) (L.erase i) R' a' w' (by simp [hsz]) (fun j hj hl => ?_) ?_ (fun j l hj hjl hd => ?_) hm'
    · rw [hS'] at hl
      by_cases e : j = i
      · rw [if_pos e] at hl; cases hl
      · rw [if_neg e] at hl; exact (List.mem_erase_of_ne e).2 (hL j hj hl)
    · rw [List.length_erase_of_mem (hL i hlt hSi)]; omega
    · simp only [hS'] at hjl ⊢
      by_cases e : l = i
      · rw [if_pos e]
      · rw [if_neg e]
        by_cases e' : j = i
        · subst e'; exact hdep l hd
        · rw [if_neg e'] at hjl; exact hcl j l hj hjl hd
end
theorem rep_false (n i : Nat) : (Array.replicate n false).getD i false = false := by
  by_cases h : i < n <;> simp [Array.getD, h]
theorem evDraw_eq {call : CallT} {ops : Array Oper} {s s' : S} (h : evDraw P call ops s = some s') : ∃ ms s'' g, regOK ops ms = true ∧ evDrawn P call ops ms s.H ops.toList 0 s ⟨[], [], []⟩ = some (s'', g) ∧ s' = ⟨s''.T, s''.N, heapOf (fun _ => true) s.H g.ds, s''.nx, s''.wr, s''.df, more' s''.mx s''.nx⟩ := by
  obtain ⟨T, N, H, nx, wr, df, mx⟩ := s
  simp only [evDraw, Tr.force_eq] at h
  cases hb : regOK ops (masksFrom ops.toList 0 .l)
  · simp [hb] at h
  · simp only [hb, cond_true] at h
    cases hd : evDrawn P call ops (masksFrom ops.toList 0 .l) H ops.toList 0 ⟨T, N, H, nx, wr, df, mx⟩ ⟨[], [], []⟩ with
    | none => simp [hd] at h
    | some q =>
      obtain ⟨⟨T', N', H', nx', wr', df', mx'⟩, ⟨ds, hs, fs⟩⟩ := q
      simp only [hd, nN_eq, Option.some.injEq] at h
      exact ⟨_, _, _, hb, hd, h.symm⟩
theorem evDraw_up {call : CallT} {ops : Array Oper} {s s' : S} (h : evDraw P call ops s = some s') : Up s s' := by
  obtain ⟨ms, s'', g, hr, hd, rfl⟩ := evDraw_eq h
  obtain ⟨τ, lo, on, Hk, r, hF, _, h2, _, h4, h5, h6, h7, _, _⟩ := found_of (order_of hr) hd
  have := lo_mono hF (Nat.zero_le ops.size) (Nat.le_refl _)
  exact ⟨by rw [← h6.2]; exact (more'_le _ _).1, by rw [← h2]; exact h4 ▸ this, h5, h7⟩
theorem evDraw_ok {call : CallT} (hcall : CallOK P call) (hmix : P.follows .mixedOrders = true) {ops : Array Oper} {id : Nat} {ro : Option Nat} {n : Nat} {Q : Exit → Act → World → Prop} {s s' : S} {R : Ren} {a : Act} {w : World} (h : evDraw P call ops s = some s')
    (hs : St R s a w) (hf : Free R s.nx s'.mx) (hQ : ∀ R' a' w', Ext R R' s.nx s'.nx s'.wr w w' → St R' s' a' w' → Q .normal a' w') : (Code.region id ops true).wpIn (Fw ro) n P Q a w := by
  obtain ⟨ms, s'', g, hr, hd, rfl⟩ := evDraw_eq h
  have hord := order_of hr
  obtain ⟨τ, lo, on, Hk, r, hF, h1, h2, h3, h4, h5, h6, h7, h8, h9⟩ := found_of hord hd
  replace hf : Free R s.nx s''.nx := hf.less (more'_le _ _).2
  refine wpIn_region_any hmix ?_
  have hfree : ∀ id, lo 0 ≤ id → id < lo ops.size → s.H.get id = none := fun id i1 i2 => by
    cases hg : s.H.get id with
    | none => rfl
    | some o =>
      obtain ⟨b, c, hr, _⟩ := hs.M.at_ id o hg
      rw [hf id (by rw [← h2]; exact i1) (by rw [← h4]; exact i2)] at hr; cases hr
  have c0 : cont s.H on r lo (fun i => (Array.replicate ops.size false).getD i false) ops.size = s.H := by
    have : ∀ k, cont s.H on r lo (fun _ => false) k = s.H := fun k => by
      induction k with
      | zero => rfl
      | succ k ih => rw [cont, ih]; simp
    rw [cont_congr (S' := fun _ => false) (fun i hi => rep_false _ i), this]
  have t0 : ∀ t, tm ops on r (τ 0) (fun i => (Array.replicate ops.size false).getD i false) ops.size t = s.T.get t := fun t => by
    have : ∀ k, tm ops on r (τ 0) (fun _ => false) k t = (τ 0).get t := fun k => by
      induction k with
      | zero => rfl
      | succ k ih => rw [tm, ih]; simp
    rw [tm_congr (S' := fun _ => false) (fun i hi => rep_false _ i), this, h1]
  refine any_ok (R₀ := R) (WR := s''.wr) (df := s.df) (w₀ := { w with drawn := w.drawn + 1 }) hcall hF hord hfree h8 ?_ ops.size _ (List.range ops.size) R a _ (by simp) (fun i hi _ => by simpa using hi) (by simp) (fun k i hk hS => ?_) ⟨⟨Le.refl R, fun _ _ => rfl, Nat.le_refl _, fun _ _ _ => rfl, fun id b c i1 i2 hr => ?_, ⟨rfl, rfl, rfl⟩⟩, fun k hk _ id i1 i2 => ?_, ?_, hs.F.size, fun t x hx => hs.F.at_ t x (by rw [← t0 t]; exact hx), hs.D⟩
  · intro R' a' w' hm
    refine hQ R' a' w' ?_ ⟨⟨?_, fun t lv ht => hm.fr t lv ?_⟩, ?_, ?_⟩
    · have e := hm.ext
      rw [h2, h4] at e
      exact ⟨e.le, e.out, e.size, e.keep, e.new, ⟨e.quiet.os, e.quiet.tape, e.quiet.output⟩⟩
    · show a'.tmps.size = s''.N
      rw [h5]; exact hm.size
    · rw [← tm_all hF ops.size (Nat.le_refl _), h3]; exact ht
    · show Rel R' (heapOf (fun _ => true) s.H g.ds) w'
      rw [h9]; exact hm.rel
    · show DR R' s''.df a'.defers
      rw [h6.1]; exact hm.df
  · exact absurd ((rep_false ops.size k).symm.trans hS) (by simp)
  · rw [h2] at i1; rw [h4] at i2
    rw [hf id i1 i2] at hr; cases hr
  · have m1 := lo_mono hF (Nat.zero_le k) (by omega)
    have m2 := lo_mono hF (show k + 1 ≤ ops.size by omega) (Nat.le_refl _)
    exact hf id (by rw [← h2]; omega) (by show id < s''.nx; rw [← h4]; omega)
  · rw [c0]
    exact ⟨fun id o ho => by obtain ⟨b, c, hr, hh⟩ := hs.M.at_ id o ho; exact ⟨b, c, hr, hh.kept rfl⟩, hs.M.inj⟩
end Go.Rx

set_option linter.unusedSimpArgs false
set_option linter.unusedVariables false
set_option linter.unusedSectionVars false
namespace Go.Rx
open Go
variable {P : Program}

/-! ### A scope through which the run goes without a goto -/
section
variable {F : Fence} {n : Nat} {b : Frame} {a : Act} {k : List Item} {cs : List Frame} {w : World} {Q : Exit → Act → World → Prop}
theorem stepR_scope {c : Code} : step P (lone (b.atR a (.code (.scope c) :: k)) cs w) = .next (lone (b.atR a (.code c :: .inScope c :: k)) cs w) :=
  step_lone_go (by simp [stepG, stepG.exec, Frame.atR])
theorem stepR_inScope {c : Code} : step P (lone (b.atR a (.inScope c :: k)) cs w) = .next (lone (b.atR a k) cs w) :=
  step_lone_go (by simp [stepG, stepG.exec, Frame.atR])
theorem wpIn_scope {c : Code} (h : c.wpIn F n P (Exit.noGoto Q) a w) : (Code.scope c).wpIn F n P Q a w := by
  intro b k cs hro hb hr
  have h0 : (lone (b.atR a (.code (.scope c) :: k)) cs w).fenced P F := fenced_calm hb hr rfl
  obtain ⟨e, a₁, w₁, hq, harr⟩ := h b (.inScope c :: k) cs hro hb hr
  cases e with
  | normal => exact ⟨.normal, a₁, w₁, hq, .head h0 stepR_scope (StepsIn.trans harr (.one (fenced_calm hb hr rfl) stepR_inScope))⟩
  | exit id =>
    have hx : exitTo id (.inScope c :: k) = exitTo id k := by simp [exitTo]
    exact ⟨.exit id, a₁, w₁, hq, fun k' hk => .head h0 stepR_scope (harr.1 k' (by rw [hx]; exact hk)),
      fun hr' hk => let ⟨k₁, h1, h2⟩ := harr.2 hr' (by rw [hx]; exact hk); ⟨k₁, h1, .head h0 stepR_scope h2⟩⟩
  | goto l => exact hq.elim
  | ret => exact ⟨_, a₁, w₁, hq, .of_steps (.one h0 stepR_scope) harr⟩
  | panic ch => exact ⟨_, a₁, w₁, hq, .of_steps (.one h0 stepR_scope) harr⟩
  | outgrown => exact ⟨_, a₁, w₁, hq, .of_steps (.one h0 stepR_scope) harr⟩
end

def Ex.ex : Ex → Exit
  | .normal => .normal
  | .exit id => .exit id
  | .goto l => .goto l
  | .ret => .ret
/-- The round that the code runs in, by name and by block. -/
def RO (R : Ren) : Option Nat → Option Nat → Prop
  | none, rb => rb = none
  | some id, rb => ∃ b c, rb = some b ∧ R id = some (b, c)
theorem RO.mono {R R' : Ren} (h : Le R R') {ro rb : Option Nat} (hr : RO R ro rb) : RO R' ro rb := by
  cases ro with
  | none => exact hr
  | some id => obtain ⟨b, c, h1, h2⟩ := hr; exact ⟨b, c, h1, h _ _ h2⟩

/-! ### Nothing is given back -/
theorem evRegion_up {call : CallT} {ops : Array Oper} {draw : Bool} {s s' : S} {e : Ex} (h : evRegion P call ops draw s = some (e, s')) : e = .normal ∧ Up s s' ∧ (if draw then evDraw P call ops s else evOps P call ops ops.toList s) = some s' := by
  unfold evRegion at h
  cases draw with
  | true =>
    simp only at h
    cases hd : evDraw P call ops s with
    | none => simp [hd] at h
    | some x => simp [hd] at h; obtain ⟨rfl, rfl⟩ := h; exact ⟨rfl, evDraw_up hd, by simp⟩
  | false =>
    simp only at h
    cases hd : evOps P call ops ops.toList s with
    | none => simp [hd] at h
    | some x => simp [hd] at h; obtain ⟨rfl, rfl⟩ := h; exact ⟨rfl, evOps_up hd, by simp⟩
theorem evLoop_up {f : S → Option (Ex × S)} (hf : ∀ s e s', f s = some (e, s') → Up s s') : ∀ {n : Nat} {s s' : S} {e : Ex}, evLoop n f s = some (e, s') → Up s s'
  | 0, _, _, _, h => by cases h
  | n + 1, s, s', e, h => by
    simp only [evLoop] at h
    cases hs : f s with
    | none => simp [hs] at h
    | some q =>
      obtain ⟨e1, s1⟩ := q
      have h1 := hf s e1 s1 hs
      cases e1 <;> simp only [hs] at h
      case normal => exact h1.trans (evLoop_up hf h)
      all_goals (simp at h; obtain ⟨_, rfl⟩ := h; exact h1)
theorem endRange_ok {l nx mx : Nat} {f : Nat → Hp → List Nat → Nat → S} {wr : List Nat} {r : Option Res} {e : Ex} {s' : S} (h : endRange l nx f wr mx r = some (e, s')) :
    ∃ r' st pend N T ps as body d, r = some r' ∧ r'.o.H.get l = some (.loop st pend N T ps as body d) ∧ (nx ≤ r'.o.nx ∧ r'.o.nx ≤ r'.mx) ∧ st ≠ .busy ∧ jump pend = some e ∧ s' = f r'.o.nx (r'.o.H.set l (some (.loop .exhausted pend N T ps as body d))) (addW [l] (addW r'.o.wr wr)) (more' mx r'.mx) := by
  cases r with
  | none => cases h
  | some r' =>
    obtain ⟨⟨v, H, nx', wr'⟩, m⟩ := r'
    simp only [endRange] at h
    cases hg : H.get l with
    | none => simp [hg] at h
    | some o =>
      cases o <;> simp only [hg] at h <;> try cases h
      rename_i st pend N T ps as body d
      cases hb : (Nat.ble nx nx' && Nat.ble nx' m && notBusy st)
      · simp [hb] at h
      · simp only [hb, cond_true] at h
        simp only [Bool.and_eq_true] at hb
        cases hj : jump pend with
        | none => simp [hj] at h
        | some e' =>
          simp only [hj, Tr.force_eq, nN_eq] at h
          cases hl : addW [l] (addW wr' wr) with
          | nil => simp [hl] at h
          | cons x w =>
            simp [hl] at h
            obtain ⟨rfl, rfl⟩ := h
            exact ⟨⟨⟨v, H, nx', wr'⟩, m⟩, st, pend, N, T, ps, as, body, d, rfl, hg, ⟨by simpa using hb.1.1, by simpa using hb.1.2⟩, (fun e => by rw [e] at hb; exact absurd hb.2 (by simp [notBusy])), hj, by simp [hl]⟩
theorem evRange_up {call : CallT} {ro : Option Nat} {f : Operand} {ps : Array Tmp} {as body : Code} {s s' : S} {e : Ex} (h : evRange call ro f ps as body s = some (e, s')) : Up s s' := by
  obtain ⟨T, N, H, d, wr, df, mx⟩ := s
  simp only [evRange] at h
  split at h
  · split at h
    · simp only [nN_eq, Tr.force_eq] at h
      obtain ⟨r', st, pend, N', T', ps', as', body', d', _, _, hle, _, _, rfl⟩ := endRange_ok h
      exact ⟨(more'_le _ _).1, by have := hle.1; dsimp only; omega, rfl, fun id hi => mem_addW.2 (.inr (mem_addW.2 (.inr hi)))⟩
    · split at h
      · simp only [nN_eq, Tr.force_eq] at h
        obtain ⟨r', st, pend, N', T', ps', as', body', d', _, _, hle, _, _, rfl⟩ := endRange_ok h
        exact ⟨(more'_le _ _).1, by have := hle.1; dsimp only; omega, rfl, fun id hi => mem_addW.2 (.inr (mem_addW.2 (.inr hi)))⟩
      · cases h
  · cases h
theorem evC_up {call : CallT} {ro : Option Nat} {L : Nat} : ∀ {c : Code} {s s' : S} {e : Ex}, evC P call ro L c s = some (e, s') → Up s s'
  | .skip, s, s', e, h => by simp [evC] at h; obtain ⟨_, rfl⟩ := h; exact Up.refl s
  | .region _ ops draw, s, s', e, h => (evRegion_up (by simpa only [evC] using h)).2.1
  | .seq x y, s, s', e, h => by
    simp only [evC] at h
    cases hx : evC P call ro L x s with
    | none => simp [hx] at h
    | some q =>
      obtain ⟨e1, s1⟩ := q
      have h1 := evC_up hx
      cases e1 <;> simp only [hx] at h
      case normal => exact h1.trans (evC_up h)
      all_goals (simp at h; obtain ⟨_, rfl⟩ := h; exact h1)
  | .cond c x y, s, s', e, h => by
    simp only [evC] at h
    split at h
    · exact evC_up h
    · exact evC_up h
    · cases h
  | .block id c, s, s', e, h => by
    simp only [evC] at h
    cases hx : evC P call ro L c s with
    | none => simp [hx] at h
    | some q =>
      obtain ⟨e1, s1⟩ := q
      have h1 := evC_up hx
      cases e1 <;> simp only [hx] at h
      case exit j =>
        cases hb : Nat.beq j id <;> simp [hb] at h <;> obtain ⟨_, rfl⟩ := h <;> exact h1
      all_goals (simp at h; obtain ⟨_, rfl⟩ := h; exact h1)
  | .loop c, s, s', e, h => by
    simp only [evC] at h
    exact evLoop_up (fun s e s' h => evC_up h) h
  | .rangeFunc f ps as body, s, s', e, h => evRange_up (by simpa only [evC] using h)
  | .exit id, s, s', e, h => by simp [evC] at h; obtain ⟨_, rfl⟩ := h; exact Up.refl s
  | .scope c, s, s', e, h => by
    simp only [evC] at h
    cases hx : evC P call ro L c s with
    | none => simp [hx] at h
    | some q =>
      obtain ⟨e1, s1⟩ := q
      have h1 := evC_up hx
      cases e1 <;> simp only [hx] at h <;> try cases h
      all_goals exact h1
  | .label l, s, s', e, h => by simp [evC] at h; obtain ⟨_, rfl⟩ := h; exact Up.refl s
  | .goto l, s, s', e, h => by simp [evC] at h; obtain ⟨_, rfl⟩ := h; exact Up.refl s
  | .ret, s, s', e, h => by simp [evC] at h; obtain ⟨_, rfl⟩ := h; exact Up.refl s
  | .refuse why, s, s', e, h => by simp [evC] at h
end Go.Rx

set_option linter.unusedSimpArgs false
set_option linter.unusedVariables false
set_option linter.unusedSectionVars false
namespace Go.Rx
open Go
variable {P : Program}

/-- What is shown of a code: from a state that the run's stands for it comes to one that the run's end stands for. -/
def Comes' (P : Program) (rb : Option Nat) (n : Nat) (c : Code) (R : Ren) (s : S) (a : Act) (w : World) (e : Ex) (s' : S) : Prop :=
  ∀ (Q : Exit → Act → World → Prop), (∀ R' a' w', Ext R R' s.nx s'.nx s'.wr w w' → St R' s' a' w' → Q e.ex a' w') → c.wpIn (Fw rb) n P Q a w
theorem putObj_facts (w : World) (b : Nat) (o : Obj) : (w.putObj b o).heap.size = w.heap.size ∧ (∀ b', b' ≠ b → (w.putObj b o).heap[b']? = w.heap[b']?) ∧ (b < w.heap.size → (w.putObj b o).heap[b]? = some o) :=
  ⟨World.putObj_size, fun _ h => World.putObj_heap_other h, fun h => World.putObj_heap_same h⟩
/-- A loop's record is turned. -/
theorem did_turn {R : Ren} {H : Hp} {w : World} {id b c nx : Nat} {st st' : LoopState} {pend pend' : Option Code} {N : Nat} {T : Tr LV} {ps : Array Tmp} {as body : Code} {d : Nat} {lv : LV} {v : Value} (hR : Rel R H w) (hg : H.get id = some (.loop st pend N T ps as body d)) (hr : R id = some (b, c)) (hlt : id < nx) (hv : VR R lv v) :
    ∃ rec : Loop, w.heap[b]? = some (.loop rec) ∧ rec.state = st ∧ rec.pending = pend ∧ Did R nx ⟨lv, H.set id (some (.loop st' pend' N T ps as body d)), nx, [id]⟩ w (w.putObj b (.loop { rec with state := st', pending := pend' })) v := by
  obtain ⟨b', c', hr', fn, tm, db, dc, h1, h2, h3⟩ := hR.at_ id _ hg
  rw [hr] at hr'; cases hr'
  obtain ⟨e1, e2, e3⟩ := putObj_facts w b (.loop { state := st', pending := pend', fn, tmps := tm, params := ps, assign := as, body, defers := db })
  exact ⟨_, h1, rfl, rfl, did_write hR hg hr hlt e1 e2 ⟨rfl, rfl, rfl⟩ ⟨fn, tm, db, dc, e3 (lt_of_some h1), h2, h3⟩ hv⟩
theorem Did.lv {R : Ren} {nx : Nat} {v : LV} {H : Hp} {nx' : Nat} {wr : List Nat} {w w' : World} {u : Value} (h : Did R nx ⟨v, H, nx', wr⟩ w w' u) : ∃ R', Ext R R' nx nx' wr w w' ∧ Rel R' H w' := let ⟨R', h1, h2, _⟩ := h; ⟨R', h1, h2⟩
theorem jump_ok {pend : Option Code} {e : Ex} (h : jump pend = some e) {rb : Option Nat} {n : Nat} {Q : Exit → Act → World → Prop} {a : Act} {w : World} (hq : Q e.ex a w) : (match pend with | none => Q .normal a w | some c => c.wpIn (Fw rb) n P Q a w) := by
  unfold jump at h
  split at h <;> simp at h <;> subst h
  · exact hq
  · exact wpIn_ret hq
  · exact wpIn_exit hq
  · exact wpIn_goto hq
/-- Behind the record of a loop over a function: the call, and what the rounds have left. -/
theorem range_tail {call : CallT} (hcall : CallOK P call) {rb : Option Nat} {n : Nat} {g : FuncId} {cap : List LV} {ca : Array Value} {R R1 : Ren} {H1 : Hp} {w w1 : World} {N d l lb lc nx : Nat} {T : Tr LV} {a' : Act} {r : Res} {mx : Nat} {df' wr' : List Nat}
    {st : LoopState} {pend : Option Code} {N' : Nat} {T' : Tr LV} {ps' : Array Tmp} {as' body' : Code} {d' : Nat} {e : Ex} {Q : Exit → Act → World → Prop}
    (hc : call (.f g) (.yld l :: cap) H1 nx = some r) (hm1 : Rel R1 H1 w1) (hl : R1 l = some (lb, lc)) (hca : VRL R1 cap ca.toList) (hF : FR R1 N T a'.tmps) (hD : DR R1 df' a'.defers) (hf : Free R1 nx r.mx) (hln : l < nx)
    (hx : Ext R R1 d nx wr' w w1) (hdn : d ≤ nx) (hle : nx ≤ r.o.nx) (hg : r.o.H.get l = some (.loop st pend N' T' ps' as' body' d')) (hnb : st ≠ .busy) (hj : jump pend = some e) (hw1 : ∀ id ∈ r.o.wr, id ∈ wr') (hw2 : l ∈ wr')
    (hQ : ∀ R' a' w', Ext R R' d r.o.nx wr' w w' → St R' ⟨T, N, r.o.H.set l (some (.loop .exhausted pend N' T' ps' as' body' d')), r.o.nx, wr', df', mx⟩ a' w' → Q e.ex a' w') :
    (∀ (args : Array Value) (w : World), (callFunc g args).run P w = .ok (.enter g args) w) ∧ CallsIn (Fw rb) (n - 1) P g (#[Value.func (.yield lb) #[] #[]] ++ ca) w1 (rangePost (Fw rb) n P lb Q a') := by
  have hv : VRL R1 (.yld l :: cap) (Value.func (.yield lb) #[] #[] :: ca.toList) := VRL.cons ⟨lb, lc, hl, rfl⟩ hca
  obtain ⟨h1, h2⟩ := hcall (.f g) _ H1 nx r hc R1 w1 _ hm1 hv hf
  refine ⟨h1, ?_⟩
  have e1 : (#[Value.func (.yield lb) #[] #[]] ++ ca) = (Value.func (.yield lb) #[] #[] :: ca.toList).toArray := by apply Array.toList_inj.1; simp
  rw [e1]
  refine CallsIn.mono (show CallsIn (Fw rb) (n - 1) P g _ w1 _ from h2 (n - 1)) ?_
  rintro x w2 ⟨v, rfl, R2, hx2, hm2, _⟩
  have hl2 : R2 l = some (lb, lc) := hx2.le _ _ hl
  obtain ⟨rec, hb, hst, hpe, hdid⟩ := did_turn (lv := .b true) (v := .bool true) (st' := .exhausted) (pend' := pend) hm2 hg hl2 (show l < r.o.nx by omega) rfl
  obtain ⟨R3, hx3, hm3⟩ := hdid.lv
  have hend := run_endLoop (P := P) hb (by rw [hst]; exact hnb)
  have e2 : w2.putObj lb (.loop { rec with state := .exhausted, pending := pend }) = w2.putObj lb (.loop { rec with state := .exhausted }) := by rw [← hpe]
  rw [e2] at hx3 hm3
  have hxa : Ext R R3 d r.o.nx wr' w _ := (hx.trans (hx2.wider hw1) hdn hle).trans (hx3.wider fun id hi => by simp at hi; subst hi; exact hw2) (by omega) (Nat.le_refl _)
  have hq := hQ R3 a' _ hxa ⟨(hF.mono hx2.le).mono hx3.le, hm3, (hD.mono hx2.le).mono hx3.le⟩
  refine ⟨pend, w2.putObj lb (.loop { rec with state := .exhausted }), ?_, ?_⟩
  · rw [hend, hpe]
  · have := jump_ok (P := P) hj (rb := rb) (n := n) hq
    cases pend <;> exact this
theorem rel_new {R : Ren} {H : Hp} {w w' : World} {nx c : Nat} {o : LO} (hR : Rel R H w) (hf : R nx = none) (hs : w.heap.size < w'.heap.size) (hk : ∀ b, b < w.heap.size → w'.heap[b]? = w.heap[b]?)
    (ho : Holds (upd R nx (w.heap.size, c)) w' w.heap.size c o) : Rel (upd R nx (w.heap.size, c)) (H.set nx (some o)) w' := by
  have hle0 := le_upd (x := (w.heap.size, c)) hf
  refine ⟨fun id x hx => ?_, fun id id' o1 o2 b c1 c2 g1 g2 r1 r2 => ?_⟩
  · by_cases e' : id = nx
    · subst e'; rw [Tr.get_set_same] at hx; cases hx; exact ⟨_, _, upd_same R _ _, ho⟩
    · rw [Tr.get_set_ne _ _ e'] at hx
      obtain ⟨b, c, hr, hh⟩ := hR.at_ id x hx
      exact ⟨b, c, hle0 _ _ hr, (hh.kept (hk b hh.lt)).mono hle0⟩
  · have old : ∀ i y, i ≠ nx → (H.set nx (some o)).get i = some y → ∃ b c, R i = some (b, c) ∧ b < w.heap.size ∧ H.get i = some y := fun i y hne hy => by
      rw [Tr.get_set_ne _ _ hne] at hy
      obtain ⟨b, c, hr, hh⟩ := hR.at_ i y hy
      exact ⟨b, c, hr, hh.lt, hy⟩
    by_cases e1 : id = nx
    · by_cases e2 : id' = nx
      · rw [e1, e2]
      · obtain ⟨b', c', q, hb, _⟩ := old id' o2 e2 g2
        rw [e1, upd_same] at r1; cases r1
        rw [upd_ne R _ e2, q] at r2; cases r2; omega
    · obtain ⟨b', c', q, hb, go⟩ := old id o1 e1 g1
      by_cases e2 : id' = nx
      · rw [e2, upd_same] at r2; cases r2
        rw [upd_ne R _ e1, q] at r1; cases r1; omega
      · obtain ⟨b2, c2', q', hb', go'⟩ := old id' o2 e2 g2
        rw [upd_ne R _ e1] at r1; rw [upd_ne R _ e2] at r2
        exact hR.inj id id' o1 o2 b c1 c2 go go' r1 r2
theorem ext_new {R : Ren} {w w' : World} {nx c : Nat} {wr : List Nat} (hf : R nx = none) (hs : w.heap.size < w'.heap.size) (hk : ∀ b, b < w.heap.size → w'.heap[b]? = w.heap[b]?) (hq : Quiet w w') : Ext R (upd R nx (w.heap.size, c)) nx (nx + 1) wr w w' :=
  ⟨le_upd hf, fun id hid => upd_ne R _ (by omega), by omega, fun b hb _ => hk b hb, fun id b c' i1 i2 hr => by
    have : id = nx := by omega
    subst this; rw [upd_same] at hr; cases hr; exact .inl (Nat.le_refl _), hq⟩
/-- The two blocks of an outermost loop. -/
theorem two_new {R : Ren} {H : Hp} {w w' w1 : World} {d N : Nat} {T : Tr LV} {a : Act} {ps : Array Tmp} {as body : Code} {fn : FuncId} {wr : List Nat} (hM : Rel R H w) (hF : FR R N T a.tmps) (h0 : R d = none) (h1 : R (d + 1) = none)
    (hw' : w' = w.alloc (.deferred (some []))) (hw1 : w1 = w'.alloc (.loop { state := .ready, pending := none, fn := fn, tmps := a.tmps, params := ps, assign := as, body, defers := w.heap.size })) :
    ∃ R1, Ext R R1 d (d + 2) wr w w1 ∧ Rel R1 ((H.set d (some .dfr)).set (d + 1) (some (.loop .ready none N T ps as body d))) w1 ∧ R1 d = some (w.heap.size, 0) ∧ R1 (d + 1) = some (w.heap.size + 1, 0) := by
  obtain ⟨z1, z2, z3⟩ := heap_alloc' w (.deferred (some []))
  rw [← hw'] at z1 z2 z3
  obtain ⟨y1, y2, y3⟩ := heap_alloc' w' (.loop { state := .ready, pending := none, fn := fn, tmps := a.tmps, params := ps, assign := as, body, defers := w.heap.size })
  rw [← hw1] at y1 y2 y3
  have h1' : (upd R d (w.heap.size, 0)) (d + 1) = none := by rw [upd_ne R _ (by omega)]; exact h1
  have hm0 := rel_new (c := 0) (o := .dfr) hM h0 (by omega) z3 z2
  have hx0 := ext_new (c := 0) (wr := wr) h0 (by omega) z3 (by subst hw'; exact ⟨rfl, rfl, rfl⟩)
  have hle1 := le_upd (x := (w'.heap.size, 0)) h1'
  have hm1 := rel_new (c := 0) (o := .loop .ready none N T ps as body d) hm0 h1' (by omega) y3 ⟨fn, a.tmps, w.heap.size, 0, y2, hle1 _ _ (upd_same R d _), (hF.mono hx0.le).mono hle1⟩
  have hx1 := ext_new (c := 0) (wr := wr) h1' (by omega) y3 (by subst hw1; exact ⟨rfl, rfl, rfl⟩)
  exact ⟨_, hx0.trans hx1 (by omega) (by omega), hm1, hle1 _ _ (upd_same R d _), by rw [← z1]; exact upd_same _ _ _⟩
theorem evRange_outer {call : CallT} (hcall : CallOK P call) {n : Nat} {f : Operand} {ps : Array Tmp} {as body : Code} {T : Tr LV} {N : Nat} {H : Hp} {d mx : Nat} {wr df : List Nat} {g : FuncId} {cap : List LV} {s' : S} {e : Ex} {R : Ren} {a : Act} {w : World}
    (hfv : evO T f = some (.fn (.func g) [] cap)) (hs : St R ⟨T, N, H, d, wr, df, mx⟩ a w) (hf : Free R d s'.mx)
    (h : endRange (d + 1) (d + 2) (fun nx' H wr mx => ⟨T, N, H, nx', wr, d :: df, mx⟩) wr mx (call (.f g) (.yld (d + 1) :: cap) ((H.set d (some .dfr)).set (d + 1) (some (.loop .ready none N T ps as body d))) (d + 2)) = some (e, s')) :
    Comes' P none n (.rangeFunc f ps as body) R ⟨T, N, H, d, wr, df, mx⟩ a w e s' := by
  intro Q hQ
  obtain ⟨fi, ca, hev, hfi, hca⟩ := evO_ok hs.F hfv
  have hfi' : fi = #[] := by apply Array.toList_inj.1; exact hfi
  subst hfi'
  obtain ⟨r, st, pend, N', T', ps', as', body', d', hc, hg, hle, hnb, hj, rfl⟩ := endRange_ok h
  have hf' : Free R d r.mx := Free.less (b' := more' mx r.mx) hf (more'_le _ _).2
  have hle1 := hle.1
  have hle2 := hle.2
  have h0 : R d = none := hf' d (Nat.le_refl _) (by omega)
  have h1 : R (d + 1) = none := hf' (d + 1) (by omega) (by omega)
  refine wpIn_rangeFunc ?_
  intro fn _
  obtain ⟨w', hw'⟩ : ∃ w', w' = w.alloc (.deferred (some [])) := ⟨_, rfl⟩
  obtain ⟨w1, hw1⟩ : ∃ w1, w1 = w'.alloc (.loop { state := .ready, pending := none, fn := fn, tmps := a.tmps, params := ps, assign := as, body, defers := w.heap.size }) := ⟨_, rfl⟩
  obtain ⟨R1, hxx, hmB, hdR, hlb⟩ := two_new (wr := addW [d + 1] (addW r.o.wr wr)) hs.M hs.F h0 h1 hw' hw1
  have hent := run_enterLoop_outer (P := P) (w := w) fn a.tmps ps as body
  rw [← hw', ← hw1] at hent
  obtain ⟨a', ha'⟩ : ∃ a' : Act, a' = { a with defers := { target := .collected w.heap.size, args := #[] } :: a.defers } := ⟨_, rfl⟩
  have hD : DR R1 (d :: df) a'.defers := by rw [ha']; exact ⟨_, _, _, hdR, rfl, hs.D.mono hxx.le⟩
  have hFa : FR R1 N T a'.tmps := by rw [ha']; exact hs.F.mono hxx.le
  obtain ⟨hentf, hcalls⟩ := range_tail (n := n) (rb := none) (Q := Q) hcall hc hmB hlb (hca.mono hxx.le) hFa hD (hf'.after hxx (by omega)) (by omega) hxx (by omega) hle.1 hg hnb hj (fun id hi => mem_addW.2 (.inr (mem_addW.2 (.inl hi)))) (mem_addW.2 (.inl (by simp))) hQ
  rw [ha'] at hcalls
  refine ⟨w.heap.size + 1, [{ target := .collected w.heap.size, args := #[] }], w1, { target := .fn (.func g) ca, args := #[.func (.yield (w.heap.size + 1)) #[] #[]] }, w1, g, #[.func (.yield (w.heap.size + 1)) #[] #[]] ++ ca, w1, ?_, ?_, ?_, ?_, ?_, ?_⟩
  · exact hent
  · simp only [resolve, hev, Deferred.ofValue, Sem.run_pure]
    simp [Act.eval]
  · exact fun _ _ => trivial
  · simp only [invoke]
    exact hentf _ _
  · exact fun h => by cases h
  · exact hcalls
theorem evRange_inner {call : CallT} (hcall : CallOK P call) {n : Nat} {f : Operand} {ps : Array Tmp} {as body : Code} {T : Tr LV} {N : Nat} {H : Hp} {d mx : Nat} {wr df : List Nat} {g : FuncId} {cap : List LV} {s' : S} {e : Ex} {R : Ren} {a : Act} {w : World}
    {l₀ b0 c0 : Nat} {st0 : LoopState} {pend0 : Option Code} {N0 : Nat} {T0 : Tr LV} {ps0 : Array Tmp} {as0 body0 : Code} {d0 : Nat}
    (hfv : evO T f = some (.fn (.func g) [] cap)) (hs : St R ⟨T, N, H, d, wr, df, mx⟩ a w) (hf : Free R d s'.mx) (hr0 : R l₀ = some (b0, c0)) (hg0 : H.get l₀ = some (.loop st0 pend0 N0 T0 ps0 as0 body0 d0))
    (h : endRange d (d + 1) (fun nx' H wr mx => ⟨T, N, H, nx', wr, df, mx⟩) wr mx (call (.f g) (.yld d :: cap) (H.set d (some (.loop .ready none N T ps as body d0))) (d + 1)) = some (e, s')) :
    Comes' P (some b0) n (.rangeFunc f ps as body) R ⟨T, N, H, d, wr, df, mx⟩ a w e s' := by
  intro Q hQ
  obtain ⟨fi, ca, hev, hfi, hca⟩ := evO_ok hs.F hfv
  have hfi' : fi = #[] := by apply Array.toList_inj.1; exact hfi
  subst hfi'
  obtain ⟨r, st, pend, N', T', ps', as', body', d', hc, hg, hle, hnb, hj, rfl⟩ := endRange_ok h
  obtain ⟨b0', c0', hr0', fn0, tm0, db, dc, hb0, hd0, _⟩ := hs.M.at_ l₀ _ hg0
  rw [hr0] at hr0'; cases hr0'
  have hf' : Free R d r.mx := Free.less (b' := more' mx r.mx) hf (more'_le _ _).2
  have hle1 := hle.1
  have hle2 := hle.2
  have h0 : R d = none := hf' d (Nat.le_refl _) (by omega)
  refine wpIn_rangeFunc ?_
  intro fn _
  obtain ⟨w1, hw1⟩ : ∃ w1, w1 = w.alloc (.loop { state := .ready, pending := none, fn := fn, tmps := a.tmps, params := ps, assign := as, body, defers := db }) := ⟨_, rfl⟩
  obtain ⟨y1, y2, y3⟩ := heap_alloc' w (.loop { state := .ready, pending := none, fn := fn, tmps := a.tmps, params := ps, assign := as, body, defers := db })
  rw [← hw1] at y1 y2 y3
  have hmB := rel_new (c := 0) (o := .loop .ready none N T ps as body d0) hs.M h0 (by omega) y3 ⟨fn, a.tmps, db, dc, y2, le_upd h0 _ _ hd0, hs.F.mono (le_upd h0)⟩
  have hxx := ext_new (c := 0) (wr := addW [d] (addW r.o.wr wr)) h0 (by omega) y3 (by subst hw1; exact ⟨rfl, rfl, rfl⟩)
  have hent := run_enterLoop_inner (P := P) (w := w) hb0 fn a.tmps ps as body
  rw [← hw1] at hent
  obtain ⟨hentf, hcalls⟩ := range_tail (n := n) (rb := some b0) (Q := Q) (a' := a) hcall hc hmB (upd_same R d _) (hca.mono hxx.le) (hs.F.mono hxx.le) (hs.D.mono hxx.le) (hf'.after hxx (by omega)) (by omega) hxx (by omega) hle.1 hg hnb hj (fun id hi => mem_addW.2 (.inr (mem_addW.2 (.inl hi)))) (mem_addW.2 (.inl (by simp))) hQ
  refine ⟨w.heap.size, [], w1, { target := .fn (.func g) ca, args := #[.func (.yield w.heap.size) #[] #[]] }, w1, g, #[.func (.yield w.heap.size) #[] #[]] ++ ca, w1, ?_, ?_, ?_, ?_, ?_, ?_⟩
  · exact hent
  · simp only [resolve, hev, Deferred.ofValue, Sem.run_pure]
    simp [Act.eval]
  · exact fun _ _ => trivial
  · simp only [invoke]
    exact hentf _ _
  · exact fun h => by cases h
  · exact hcalls
theorem evRange_ok {call : CallT} (hcall : CallOK P call) {ro rb : Option Nat} {n : Nat} {f : Operand} {ps : Array Tmp} {as body : Code} {s s' : S} {e : Ex} {R : Ren} {a : Act} {w : World} (h : evRange call ro f ps as body s = some (e, s')) (hs : St R s a w) (hro : RO R ro rb) (hf : Free R s.nx s'.mx) :
    Comes' P rb n (.rangeFunc f ps as body) R s a w e s' := by
  obtain ⟨T, N, H, d, wr, df, mx⟩ := s
  simp only [evRange] at h
  split at h
  · rename_i g cap hfv
    split at h
    · simp only [nN_eq, Tr.force_eq] at h
      have hrb : rb = none := hro
      subst hrb
      exact evRange_outer hcall hfv hs hf h
    · rename_i l₀
      split at h
      · rename_i hg0
        simp only [nN_eq, Tr.force_eq] at h
        obtain ⟨b0, c0, hrb, hr0⟩ := hro
        subst hrb
        exact evRange_inner hcall hfv hs hf hr0 hg0 h
      · cases h
  · cases h
end Go.Rx

set_option linter.unusedSimpArgs false
set_option linter.unusedVariables false
set_option linter.unusedSectionVars false
namespace Go.Rx
open Go
variable {P : Program}

theorem comes_stay {rb : Option Nat} {n : Nat} {R : Ren} {s : S} {a : Act} {w : World} (hs : St R s a w) {e : Ex} {Q : Exit → Act → World → Prop} (hQ : ∀ R' a' w', Ext R R' s.nx s.nx s.wr w w' → St R' s a' w' → Q e.ex a' w') : Q e.ex a w := hQ R a w (Ext.refl R _ _ w) hs
theorem evLoop_ok {rb : Option Nat} {n : Nat} {c : Code} {ro : Option Nat} {f : S → Option (Ex × S)} (hup : ∀ s e s', f s = some (e, s') → Up s s')
    (hf : ∀ s s' e R a w, f s = some (e, s') → St R s a w → RO R ro rb → Free R s.nx s'.mx → Comes' P rb n c R s a w e s') :
    ∀ {m : Nat} {s s' : S} {e : Ex} {R : Ren} {a : Act} {w : World}, evLoop m f s = some (e, s') → St R s a w → RO R ro rb → Free R s.nx s'.mx → ∀ (Q : Exit → Act → World → Prop), (∀ R' a' w', Ext R R' s.nx s'.nx s'.wr w w' → St R' s' a' w' → Q e.ex a' w') → Code.roundsIn (Fw rb) n P c Q m a w
  | 0, _, _, _, _, _, _, h, _, _, _, _, _ => by cases h
  | m + 1, s, s', e, R, a, w, h, hs, hro, hfr, Q, hQ => by
    simp only [evLoop] at h
    cases hfs : f s with
    | none => simp [hfs] at h
    | some q =>
      obtain ⟨e1, s1⟩ := q
      have hu1 := hup s e1 s1 hfs
      rw [roundsIn_succ]
      cases e1 <;> simp only [hfs] at h
      case normal =>
        have hu2 := evLoop_up hup h
        refine hf s s1 .normal R a w hfs hs hro (hfr.less hu2.mx) _ ?_
        intro R1 a1 w1 hx1 hs1
        refine evLoop_ok hup hf h hs1 (hro.mono hx1.le) (hfr.after hx1 hu1.nx) Q ?_
        intro R2 a2 w2 hx2 hs2
        exact hQ R2 a2 w2 ((hx1.wider hu2.wr).trans hx2 hu1.nx hu2.nx) hs2
      all_goals
        simp at h
        obtain ⟨rfl, rfl⟩ := h
        refine hf s s1 _ R a w hfs hs hro hfr _ ?_
        intro R1 a1 w1 hx1 hs1
        exact hQ R1 a1 w1 hx1 hs1
theorem evC_ok {call : CallT} (hcall : CallOK P call) (hmix : P.follows .mixedOrders = true) {ro rb : Option Nat} {n L : Nat} : ∀ {c : Code} {s s' : S} {e : Ex} {R : Ren} {a : Act} {w : World}, evC P call ro L c s = some (e, s') → St R s a w → RO R ro rb → Free R s.nx s'.mx → Comes' P rb n c R s a w e s'
  | .skip, s, s', e, R, a, w, h, hs, hro, hf, Q, hQ => by
    simp [evC] at h; obtain ⟨rfl, rfl⟩ := h
    exact wpIn_skip (hQ R a w (Ext.refl R _ _ w) hs)
  | .region id ops draw, s, s', e, R, a, w, h, hs, hro, hf, Q, hQ => by
    obtain ⟨rfl, _, he⟩ := evRegion_up (show evRegion P call ops draw s = some (e, s') by simpa only [evC] using h)
    cases draw with
    | true => exact evDraw_ok hcall hmix (by simpa using he) hs hf hQ
    | false =>
      refine wpIn_region ?_
      have := evOps_ok (ro := rb) (n := n) (Q := Q) hcall (l := ops.toList) (k := 0) (ops := ops) (fun j => by simp) (by simpa using he) hs hf hQ
      rw [List.range_eq_range']
      simpa using this
  | .seq x y, s, s', e, R, a, w, h, hs, hro, hf, Q, hQ => by
    simp only [evC] at h
    cases hx : evC P call ro L x s with
    | none => simp [hx] at h
    | some q =>
      obtain ⟨e1, s1⟩ := q
      have hu1 := evC_up hx
      refine wpIn_seq ?_
      cases e1 <;> simp only [hx] at h
      case normal =>
        have hu2 := evC_up h
        refine evC_ok hcall hmix hx hs hro (hf.less hu2.mx) _ ?_
        intro R1 a1 w1 hx1 hs1
        refine evC_ok hcall hmix h hs1 (hro.mono hx1.le) (hf.after hx1 hu1.nx) Q ?_
        intro R2 a2 w2 hx2 hs2
        exact hQ R2 a2 w2 ((hx1.wider hu2.wr).trans hx2 hu1.nx hu2.nx) hs2
      all_goals
        simp at h
        obtain ⟨rfl, rfl⟩ := h
        exact evC_ok hcall hmix hx hs hro hf _ fun R1 a1 w1 hx1 hs1 => hQ R1 a1 w1 hx1 hs1
  | .cond c x y, s, s', e, R, a, w, h, hs, hro, hf, Q, hQ => by
    simp only [evC] at h
    split at h
    · rename_i hc
      exact wpIn_cond_true (show a.eval c = .bool true from evO_ok hs.F hc) (evC_ok hcall hmix h hs hro hf Q hQ)
    · rename_i hc
      exact wpIn_cond_false (show a.eval c = .bool false from evO_ok hs.F hc) (evC_ok hcall hmix h hs hro hf Q hQ)
    · cases h
  | .block id c, s, s', e, R, a, w, h, hs, hro, hf, Q, hQ => by
    simp only [evC] at h
    cases hx : evC P call ro L c s with
    | none => simp [hx] at h
    | some q =>
      obtain ⟨e1, s1⟩ := q
      refine wpIn_block ?_
      cases e1 <;> simp only [hx] at h
      case exit j =>
        cases hb : Nat.beq j id
        · simp [hb] at h
          obtain ⟨rfl, rfl⟩ := h
          have hne : j ≠ id := (beq_false _ _).1 hb
          refine evC_ok hcall hmix hx hs hro hf _ fun R1 a1 w1 hx1 hs1 => ?_
          show (if j = id then Q .normal a1 w1 else Q (.exit j) a1 w1)
          rw [if_neg hne]; exact hQ R1 a1 w1 hx1 hs1
        · simp [hb] at h
          obtain ⟨rfl, rfl⟩ := h
          have he : j = id := (beq_iff _ _).1 hb
          refine evC_ok hcall hmix hx hs hro hf _ fun R1 a1 w1 hx1 hs1 => ?_
          show (if j = id then Q .normal a1 w1 else Q (.exit j) a1 w1)
          rw [if_pos he]; exact hQ R1 a1 w1 hx1 hs1
      all_goals
        simp at h
        obtain ⟨rfl, rfl⟩ := h
        exact evC_ok hcall hmix hx hs hro hf _ fun R1 a1 w1 hx1 hs1 => hQ R1 a1 w1 hx1 hs1
  | .loop c, s, s', e, R, a, w, h, hs, hro, hf, Q, hQ => by
    simp only [evC] at h
    exact wpIn_loop_rounds L (evLoop_ok (rb := rb) (n := n) (c := c) (ro := ro) (fun s e s' h => evC_up h) (fun s s' e R a w h hs hro hf => evC_ok hcall hmix h hs hro hf) h hs hro hf Q hQ)
  | .rangeFunc f ps as body, s, s', e, R, a, w, h, hs, hro, hf, Q, hQ => evRange_ok hcall (by simpa only [evC] using h) hs hro hf Q hQ
  | .exit id, s, s', e, R, a, w, h, hs, hro, hf, Q, hQ => by
    simp [evC] at h; obtain ⟨rfl, rfl⟩ := h
    exact wpIn_exit (hQ R a w (Ext.refl R _ _ w) hs)
  | .scope c, s, s', e, R, a, w, h, hs, hro, hf, Q, hQ => by
    simp only [evC] at h
    cases hx : evC P call ro L c s with
    | none => simp [hx] at h
    | some q =>
      obtain ⟨e1, s1⟩ := q
      refine wpIn_scope ?_
      cases e1 <;> simp only [hx] at h <;> try cases h
      all_goals exact evC_ok hcall hmix hx hs hro hf _ fun R1 a1 w1 hx1 hs1 => hQ R1 a1 w1 hx1 hs1
  | .label l, s, s', e, R, a, w, h, hs, hro, hf, Q, hQ => by
    simp [evC] at h; obtain ⟨rfl, rfl⟩ := h
    exact wpIn_label (hQ R a w (Ext.refl R _ _ w) hs)
  | .goto l, s, s', e, R, a, w, h, hs, hro, hf, Q, hQ => by
    simp [evC] at h; obtain ⟨rfl, rfl⟩ := h
    exact wpIn_goto (hQ R a w (Ext.refl R _ _ w) hs)
  | .ret, s, s', e, R, a, w, h, hs, hro, hf, Q, hQ => by
    simp [evC] at h; obtain ⟨rfl, rfl⟩ := h
    exact wpIn_ret (hQ R a w (Ext.refl R _ _ w) hs)
  | .refuse why, s, s', e, R, a, w, h, hs, hro, hf, Q, hQ => by simp [evC] at h
end Go.Rx

set_option linter.unusedSimpArgs false
set_option linter.unusedVariables false
set_option linter.unusedSectionVars false
namespace Go.Rx
open Go
variable {P : Program}

/-! ### Values that name no new block -/
def Agree (n : Nat) (R R' : Ren) : Prop := ∀ id, id < n → R' id = R id
mutual
theorem VR.low {n : Nat} {R R' : Ren} (h : Agree n R R') : ∀ {lv : LV} {v : Value}, lv.lt n = true → VR R' lv v → VR R lv v
  | .b _, _, _, hv => hv
  | .i _ _, _, _, hv => hv
  | .s _, _, _, hv => hv
  | .nilp, _, _, hv => hv
  | .p id _, _, hl, hv => by obtain ⟨b, c, hr, e⟩ := hv; exact ⟨b, c, (h id (by simpa [LV.lt] using hl)) ▸ hr, e⟩
  | .nils, _, _, hv => hv
  | .sl id _ _ _, _, hl, hv => by obtain ⟨b, c, hr, e⟩ := hv; exact ⟨b, c, (h id (by simpa [LV.lt] using hl)) ▸ hr, e⟩
  | .gs id _ _ _, _, hl, hv => by obtain ⟨b, c, hr, e⟩ := hv; exact ⟨b, c, (h id (by simpa [LV.lt] using hl)) ▸ hr, e⟩
  | .fn _ _ _, _, hl, hv => by
    simp only [LV.lt, Bool.and_eq_true] at hl
    obtain ⟨a, c, e, h1, h2⟩ := hv; exact ⟨a, c, e, VRL.low h hl.1 h1, VRL.low h hl.2 h2⟩
  | .yld id, _, hl, hv => by obtain ⟨b, c, hr, e⟩ := hv; exact ⟨b, c, (h id (by simpa [LV.lt] using hl)) ▸ hr, e⟩
  | .nilf, _, _, hv => hv
  | .nilm, _, _, hv => hv
  | .mp id, _, hl, hv => by obtain ⟨b, c, hr, e⟩ := hv; exact ⟨b, c, (h id (by simpa [LV.lt] using hl)) ▸ hr, e⟩
  | .ifc _ x, _, hl, hv => by obtain ⟨y, e, h1⟩ := hv; exact ⟨y, e, VR.low h (lv := x) (by simpa only [LV.lt] using hl) h1⟩
  | .nili, _, _, hv => hv
  | .agg l, _, hl, hv => by obtain ⟨a, e, h1⟩ := hv; exact ⟨a, e, VRL.low h (l := l) (by simpa only [LV.lt] using hl) h1⟩
  | .tup l, _, hl, hv => by obtain ⟨a, e, h1⟩ := hv; exact ⟨a, e, VRL.low h (l := l) (by simpa only [LV.lt] using hl) h1⟩
theorem VRL.low {n : Nat} {R R' : Ren} (h : Agree n R R') : ∀ {l : List LV} {vs : List Value}, LV.ltL n l = true → VRL R' l vs → VRL R l vs
  | [], _, _, hv => hv
  | _ :: _, _, hl, hv => by
    simp only [LV.ltL, Bool.and_eq_true] at hl
    obtain ⟨y, r, e, h1, h2⟩ := hv; exact ⟨y, r, e, VR.low h hl.1 h1, VRL.low h hl.2 h2⟩
end
theorem Tr.ltT_ok {n : Nat} : ∀ {T : Tr LV}, Tr.ltT n T = true → ∀ t lv, T.get t = some lv → lv.lt n = true
  | .l, _, t, lv, h => by simp [Tr.get_l] at h
  | .n v a b, hl, t, lv, h => by
    simp only [Tr.ltT, Bool.and_eq_true] at hl
    rw [Tr.get_n] at h
    split at h
    · subst h; exact hl.1.1
    · split at h
      · exact Tr.ltT_ok hl.1.2 _ lv h
      · exact Tr.ltT_ok hl.2 _ lv h
theorem Holds.low {n : Nat} {R R' : Ren} (h : Agree n R R') {w : World} {b c : Nat} {o : LO} (hl : o.lt n = true) (ho : Holds R' w b c o) : Holds R w b c o := by
  cases o with
  | row t cs => obtain ⟨vs, h1, h2⟩ := ho; exact ⟨vs, h1, h2.low h hl⟩
  | gro t z cs => obtain ⟨n, xs, h1, h2⟩ := ho; exact ⟨n, xs, h1, h2.low h hl⟩
  | ro base cs =>
    refine ⟨ho.1, fun i lv hi hk0 => (ho.2 i lv hi hk0).imp fun v hv => ⟨hv.1, hv.2.low h ?_⟩⟩
    have key : ∀ (l : List LV), LV.ltL n l = true → ∀ x ∈ l, x.lt n = true := by
      intro l
      induction l with
      | nil => intro _ x hx; cases hx
      | cons y l ih =>
        intro hl x hx
        simp only [LV.ltL, Bool.and_eq_true] at hl
        rcases List.mem_cons.1 hx with rfl | hx
        · exact hl.1
        · exact ih hl.2 x hx
    exact key cs hl lv (List.mem_of_getElem? hi)
  | loop st pend N T ps as body d => simp [LO.lt] at hl
  | dfr => exact ho
theorem objs_ok {n : Nat} {H H₀ : Hp} : ∀ {l : List Nat}, objsBelow n H H₀ l = true → ∀ id ∈ l, (∃ o, H₀.get id = some o) ∧ ∀ o, H.get id = some o → o.lt n = true
  | [], _, id, h => by cases h
  | x :: l, h, id, hi => by
    simp only [objsBelow, Bool.and_eq_true] at h
    rcases List.mem_cons.1 hi with rfl | hi
    · refine ⟨?_, fun o ho => ?_⟩
      · cases hg : H₀.get id with
        | none => rw [hg] at h; exact absurd h.1.1 (by simp)
        | some o => exact ⟨o, rfl⟩
      · have := h.1.2; rw [ho] at this; exact this
    · exact objs_ok h.2 id hi
theorem get_back {H : Hp} : ∀ {l : List Nat} {H₀ : Hp} {id : Nat}, (back H l H₀).get id = if id ∈ l then H.get id else H₀.get id
  | [], H₀, id => by simp [back]
  | x :: l, H₀, id => by
    rw [back, Tr.force_eq, get_back (l := l)]
    by_cases h : id ∈ l
    · simp [h]
    · rw [if_neg h, Tr.get_set]
      by_cases e : id = x
      · subst e; simp
      · simp [e, h]
theorem below_match (nx : Nat) (wr : List Nat) (H₀ : Hp) (v : LV) (H : Hp) (nx' : Nat) : gc nx H₀ v H nx' wr =
    (if below nx wr = [] then (bif v.lt nx then ⟨v, H₀, nx, []⟩ else ⟨v, H, nx', []⟩) else (bif v.lt nx && objsBelow nx H H₀ (below nx wr) then ⟨v, back H (below nx wr) H₀, nx, below nx wr⟩ else ⟨v, H, nx', below nx wr⟩)) := by
  unfold gc
  cases h : below nx wr with
  | nil => simp
  | cons x l => simp [Tr.force_eq]
/-- What is given back behind a call. -/
theorem gc_ok {R R' : Ren} {H₀ H : Hp} {nx nx' : Nat} {wr : List Nat} {w w' : World} {lv : LV} {v : Value} (hR : Rel R H₀ w) (hx : Ext R R' nx nx' wr w w') (hm : Rel R' H w') (hv : VR R' lv v) : Did R nx (gc nx H₀ lv H nx' wr) w w' v := by
  have hag : Agree nx R R' := fun id hid => hx.out id (.inl hid)
  have hkeep : ∀ b, b < w.heap.size → (∀ id ∈ below nx wr, id < nx → ∀ c, R id ≠ some (b, c)) → w'.heap[b]? = w.heap[b]? := fun b hb hn => hx.keep b hb fun id hi hlt => hn id (mem_below.2 ⟨hi, hlt⟩) hlt
  have hx' : Ext R R' nx nx' (below nx wr) w w' := ⟨hx.le, hx.out, hx.size, hkeep, fun id b c h1 h2 h3 => (hx.new id b c h1 h2 h3).imp_right fun ⟨i, hi, hlt, r⟩ => ⟨i, mem_below.2 ⟨hi, hlt⟩, hlt, r⟩, hx.quiet⟩
  have hx0 : Ext R R nx nx (below nx wr) w w' := ⟨Le.refl R, fun _ _ => rfl, hx.size, hkeep, fun id b c h1 h2 _ => by omega, hx.quiet⟩
  rw [below_match]
  by_cases hb : below nx wr = []
  · rw [if_pos hb]
    rw [hb] at hx' hx0
    cases hl : lv.lt nx
    · exact ⟨R', hx', hm, hv⟩
    · exact ⟨R, hx0, ⟨fun id o ho => by
        obtain ⟨b, c, hr, hh⟩ := hR.at_ id o ho
        exact ⟨b, c, hr, hh.kept (hx0.keep b hh.lt fun i hi => by cases hi)⟩, hR.inj⟩, hv.low hag hl⟩
  · rw [if_neg hb]
    cases hl : (lv.lt nx && objsBelow nx H H₀ (below nx wr))
    · exact ⟨R', hx', hm, hv⟩
    · simp only [Bool.and_eq_true] at hl
      have hob := objs_ok hl.2
      simp only [cond_true]
      refine ⟨R, hx0, ⟨fun id o ho => ?_, fun id id' o o' b c c' h1 h2 r1 r2 => ?_⟩, hv.low hag hl.1⟩
      · rw [get_back] at ho
        by_cases hi : id ∈ below nx wr
        · rw [if_pos hi] at ho
          obtain ⟨b, c, hr, hh⟩ := hm.at_ id o ho
          rw [hag id (mem_below.1 hi).2] at hr
          exact ⟨b, c, hr, hh.low hag ((hob id hi).2 o ho)⟩
        · rw [if_neg hi] at ho
          obtain ⟨b, c, hr, hh⟩ := hR.at_ id o ho
          refine ⟨b, c, hr, hh.kept (hkeep b hh.lt fun i hi' _ c' hri => hi ?_)⟩
          obtain ⟨oi, hoi⟩ := (hob i hi').1
          rw [← hR.inj i id oi o b c' c hoi ho hri hr]; exact hi'
      · have ex : ∀ i x, (back H (below nx wr) H₀).get i = some x → ∃ y, H₀.get i = some y := fun i x hx => by
          rw [get_back] at hx
          by_cases hi : i ∈ below nx wr
          · exact (hob i hi).1
          · rw [if_neg hi] at hx; exact ⟨x, hx⟩
        obtain ⟨y1, g1⟩ := ex id o h1
        obtain ⟨y2, g2⟩ := ex id' o' h2
        exact hR.inj id id' y1 y2 b c c' g1 g2 r1 r2

theorem gcA_ok {args : List LV} {R R' : Ren} {H₀ H : Hp} {nx nx' : Nat} {wr : List Nat} {w w' : World} {lv : LV} {v : Value} (hR : Rel R H₀ w) (hx : Ext R R' nx nx' wr w w') (hm : Rel R' H w') (hv : VR R' lv v) : Did R nx (gcA args nx H₀ lv H nx' wr) w w' v := by
  have keep : Did R nx ⟨lv, H, nx', below nx wr⟩ w w' v := by
    have hkeep : ∀ b, b < w.heap.size → (∀ id ∈ below nx wr, id < nx → ∀ c, R id ≠ some (b, c)) → w'.heap[b]? = w.heap[b]? := fun b hb hn => hx.keep b hb fun id hi hlt => hn id (mem_below.2 ⟨hi, hlt⟩) hlt
    exact ⟨R', ⟨hx.le, hx.out, hx.size, hkeep, fun id b c h1 h2 h3 => (hx.new id b c h1 h2 h3).imp_right fun ⟨i, hi, hlt, r⟩ => ⟨i, mem_below.2 ⟨hi, hlt⟩, hlt, r⟩, hx.quiet⟩, hm, hv⟩
  unfold gcA
  split
  · exact keep
  · exact gc_ok hR hx hm hv

/-! ### Frames -/
theorem get_ofArgs : ∀ {l : List LV} {k : Nat} {T : Tr LV} {t : Nat}, (ofArgs k l T).get t = if k ≤ t then (match l[t - k]? with | some x => some x | none => T.get t) else T.get t
  | [], k, T, t => by simp [ofArgs]
  | x :: l, k, T, t => by
    rw [ofArgs, Tr.force_eq, get_ofArgs (l := l), Tr.get_set]
    by_cases h : k + 1 ≤ t
    · have e : t - k = (t - (k + 1)) + 1 := by omega
      have h1 : k ≤ t := by omega
      have h2 : t ≠ k := by omega
      simp only [h, h1, h2, if_true, if_false, e, List.getElem?_cons_succ]
    · rw [if_neg h]
      by_cases e : t = k
      · subst e; simp
      · have h1 : ¬ k ≤ t := by omega
        simp only [e, h1, if_false]
theorem fr_args {R : Ren} {l : List LV} {vs : List Value} {m : Nat} (hv : VRL R l vs) : FR R (l.length + (m - l.length)) (ofArgs 0 l .l) (vs.toArray ++ Array.replicate (m - vs.toArray.size) undef) := by
  have hl := hv.length
  refine ⟨by simp [hl], fun t lv ht => ?_⟩
  rw [get_ofArgs] at ht
  simp only [Nat.zero_le, if_true, Nat.sub_zero] at ht
  cases hg : l[t]? with
  | none => rw [hg] at ht; simp [Tr.get_l] at ht
  | some x =>
    rw [hg] at ht; cases ht
    obtain ⟨u, hu, hr⟩ := hv.get hg
    have hlt : t < vs.length := (List.getElem?_eq_some_iff.1 hu).1
    have : (vs.toArray ++ Array.replicate (m - vs.toArray.size) undef)[t]? = some u := by
      rw [Array.getElem?_append_left (by simpa using hlt)]; simpa using hu
    rw [Array.getD_eq_getD_getElem?, this]; exact hr
theorem fr_put1 {R : Ren} {N : Nat} {T : Tr LV} {tm : Array Value} {p : Tmp} {lv : LV} {v : Value} (hF : FR R N T tm) (hp : p < N) (hv : VR R lv v) : FR R N (T.set p (some lv)) (tm.setIfInBounds p v) := by
  have := putT_ok (T' := T.set p (some lv)) (N := N) (T := T) (dst := some p) (lv := lv) (v := v) (a := { tmps := tm, defers := [] }) (by
    have e : Nat.blt p N = true := by simpa using hp
    simp [putT, Tr.force_eq, e]) hF hv
  exact this
theorem fr_puts {R : Ren} {N : Nat} : ∀ {ps : List Tmp} {l : List LV} {vs : List Value} {T : Tr LV} {tm : Array Value}, FR R N T tm → allLt N ps = true → VRL R l vs → FR R N (putArgs ps l T) ((ps.zip vs).foldl (fun tmps (t, a) => tmps.setIfInBounds t a) tm)
  | [], l, vs, T, tm, hF, _, _ => by cases l <;> simpa [putArgs] using hF
  | p :: ps, [], vs, T, tm, hF, _, hv => by rw [show vs = [] from hv]; simpa [putArgs] using hF
  | p :: ps, x :: l, vs, T, tm, hF, hlt, hv => by
    obtain ⟨y, r, rfl, h1, h2⟩ := hv
    simp only [allLt, Bool.and_eq_true] at hlt
    rw [putArgs, Tr.force_eq]
    exact fr_puts (fr_put1 hF (by simpa using hlt.1) h1) hlt.2 h2
/-! ### Results -/
/-- One result, as the machine reads it. -/
def resOne (tm : Array Value) (x : ResultVar) : Sem Value := match x with
  | .tmp t => pure (tm.getD t undef)
  | .cell a t => do loadVar t (← asAddr (tm.getD a undef))
theorem res_ok {R : Ren} {N : Nat} {T : Tr LV} {tm : Array Value} {H : Hp} {w : World} (hF : FR R N T tm) (hR : Rel R H w) : ∀ {l : List ResultVar} {vs : List LV}, evRes P T H l = some vs →
    ∃ us, VRL R vs us ∧ (l.mapM (resOne tm)).run P w = .ok us w
  | [], vs, h => by simp [evRes] at h; subst h; exact ⟨[], rfl, rfl⟩
  | .tmp t :: l, vs, h => by
    simp only [evRes] at h
    cases ht : T.get t with
    | none => simp [ht] at h
    | some v =>
      cases hr : evRes P T H l with
      | none => simp [ht, hr] at h
      | some m =>
        simp [ht, hr] at h; subst h
        obtain ⟨us, hus, hrun⟩ := res_ok hF hR hr
        exact ⟨_ :: us, VRL.cons (hF.at_ t v ht) hus, by simp only [List.mapM_cons, resOne, Sem.run_bind, Sem.run_pure, Result.andThen_ok, hrun]⟩
  | .cell ad t :: l, vs, h => by
    simp only [evRes] at h
    cases ht : T.get ad with
    | none => simp [ht] at h
    | some v =>
      cases hr : evRes P T H l with
      | none => cases v <;> simp [ht, hr] at h
      | some m =>
        have hv := hF.at_ ad v ht
        cases v <;> simp only [ht, hr] at h <;> try cases h
        rename_i id off
        cases hg : H.get id with
        | none => simp [hg] at h
        | some ob =>
          simp only [hg] at h
          cases hc : ob.cs with
          | none => simp [hc] at h
          | some cs =>
            simp only [hc] at h
            cases hp : prt P t cs off with
            | none => simp [hp] at h
            | some lv =>
              simp [hp] at h; subst h
              obtain ⟨b, c, hrr, e⟩ := hv
              obtain ⟨b', c', hr', hh⟩ := hR.at_ id ob hg
              rw [hrr] at hr'; cases hr'
              obtain ⟨cur, ty, hb, hcv⟩ := hh.view hc
              obtain ⟨v, hvr, hl⟩ := run_view (P := P) hb hcv hp
              obtain ⟨us, hus, hrun⟩ := res_ok hF hR hr
              exact ⟨_ :: us, VRL.cons hvr hus, by simp only [List.mapM_cons, resOne, Sem.run_bind, e, asAddr, Sem.run_pure, Result.andThen_ok, hl, hrun]⟩
theorem lOf_ok {R : Ren} {vs : List LV} {us : List Value} (h : VRL R vs us) : VR R (lOf vs) (if h : us.toArray.size = 1 then us.toArray[0] else .tuple us.toArray) := by
  cases vs with
  | nil => rw [show us = [] from h]; exact ⟨#[], rfl, rfl⟩
  | cons x l =>
    obtain ⟨y, r, rfl, h1, h2⟩ := h
    cases l with
    | nil => rw [show r = [] from h2]; exact h1
    | cons x2 l =>
      obtain ⟨y2, r2, rfl, h3, h4⟩ := h2
      rw [dif_neg (by simp)]
      exact ⟨_, rfl, VRL.cons h1 (VRL.cons h3 h4)⟩
theorem run_results {R : Ren} {N : Nat} {T : Tr LV} {tm : Array Value} {H : Hp} {w : World} (hF : FR R N T tm) (hR : Rel R H w) {fn : Func} {vs : List LV} (h : evRes P T H fn.results.toList = some vs) :
    ∃ v, VR R (lOf vs) v ∧ (results fn tm).run P w = .ok v w := by
  obtain ⟨us, hus, hrun⟩ := res_ok (P := P) hF hR h
  refine ⟨_, lOf_ok hus, ?_⟩
  have e : results fn tm = (do let vs ← fn.results.mapM (resOne tm); pure (if h : vs.size = 1 then vs[0] else .tuple vs)) := by
    unfold results
    congr 1
  rw [e, Array.mapM_eq_mapM_toList]
  simp only [Sem.run_bind, Sem.run_map, hrun, Result.andThen_ok, Sem.run_pure]
end Go.Rx

set_option linter.unusedSimpArgs false
set_option linter.unusedVariables false
set_option linter.unusedSectionVars false
namespace Go.Rx
open Go
variable {P : Program}

theorem kill_dfr {R : Ren} {H : Hp} {w : World} {d b c nx : Nat} (hR : Rel R H w) (hg : H.get d = some .dfr) (hr : R d = some (b, c)) (hlt : d < nx) :
    (Instr.takeDeferred b).run P w = .ok [] (w.putObj b (.deferred none)) ∧ Ext R R nx nx [d] w (w.putObj b (.deferred none)) ∧ Rel R (H.set d none) (w.putObj b (.deferred none)) := by
  obtain ⟨b', c', hr', hh⟩ := hR.at_ d _ hg
  rw [hr] at hr'; cases hr'
  obtain ⟨e1, e2, _⟩ := putObj_facts w b (.deferred none)
  have hk := kill_ok hR hg hr
  refine ⟨run_takeDeferred hh, ⟨Le.refl R, fun _ _ => rfl, by omega, fun b' hb hn => e2 b' fun e => hn d (by simp) hlt c (by rw [e]; exact hr), fun id b' c' h1 h2 _ => by omega, ⟨rfl, rfl, rfl⟩⟩, ⟨fun id o ho => ?_, fun id id' o o' b' c1 c2 h1 h2 r1 r2 => ?_⟩⟩
  · obtain ⟨ho', hne⟩ := hk id o ho
    obtain ⟨b', c', hr2, hh2⟩ := hR.at_ id o ho'
    exact ⟨b', c', hr2, hh2.kept (e2 b' fun e => hne b' c' hr2 (by rw [e]))⟩
  · exact hR.inj id id' o o' b' c1 c2 (hk id o h1).1 (hk id' o' h2).1 r1 r2
/-- The marks are taken off, one after the other. -/
theorem unmark_ok {R : Ren} {n : Nat} {fn : Func} {tm : Array Value} {Post : Ending → World → Prop} {nx : Nat} : ∀ {df : List Nat} {H H' : Hp} {ds : List Deferred} {w : World}, unmark nx H df = some H' → DR R df ds → Rel R H w →
    (∀ w', Ext R R nx nx df w w' → Rel R H' w' → ∃ v, (results fn tm).run P w' = .ok v w' ∧ Post (.returned v) w') → LeavesInM (Fw none) n P fn tm Post ds .returning w
  | [], H, H', ds, w, h, hd, hR, hQ => by
    simp [unmark] at h; subst h
    rw [show ds = [] from hd]
    exact hQ w (Ext.refl R _ _ w) hR
  | d :: df, H, H', ds, w, h, hd, hR, hQ => by
    obtain ⟨b, c, rest, hr, rfl, hd'⟩ := hd
    simp only [unmark] at h
    cases hg : H.get d with
    | none => simp [hg] at h
    | some o =>
      cases o <;> simp only [hg] at h <;> try cases h
      cases hb : Nat.blt d nx
      · simp [hb] at h
      · simp only [hb, cond_true, Tr.force_eq] at h
        obtain ⟨h1, h2, h3⟩ := kill_dfr (P := P) hR hg hr (show d < nx by simpa using hb)
        refine ⟨by simp, .inl ⟨b, _, rfl, h1, ?_⟩⟩
        refine unmark_ok h hd' h3 fun w' hx hm => hQ w' ?_ hm
        exact (h2.wider fun id hi => by simp at hi; simp [hi]).trans (hx.wider fun id hi => by simp [hi]) (Nat.le_refl _) (Nat.le_refl _)
theorem call_f {L : Nat} {call : CallT} (hmix : P.follows .mixedOrders = true) (hname : ∀ (g : Nat) (fn : Func) (c : Code), P.funcs[g]? = some fn → fn.body = some c → (fn.name == "runtime.NumGoroutine") = false) (hcall : CallOK P call)
    {g : FuncId} {args : List LV} {H : Hp} {nx : Nat} {r : Res} (h : evStep P L call (.f g) args H nx = some r) {R : Ren} {w : World} {vs : List Value} (hR : Rel R H w) (hv : VRL R args vs) (hf : Free R nx r.mx) :
    Runs P (.f g) R vs.toArray w fun e w' => ∃ v, e = .returned v ∧ Did R nx r.o w w' v := by
  simp only [evStep] at h
  cases hfn : P.funcs[g]? with
  | none => simp [hfn] at h
  | some fn =>
    simp only [hfn] at h
    cases hb : fn.body with
    | none => simp [hb] at h
    | some c =>
      simp only [hb, Tr.force_eq, nN_eq] at h
      have hkey : ∃ e T N H1 nx1 wr1 df1 mx1 H2 vs', (e = .normal ∨ e = .ret) ∧ evC P call none L c ⟨ofArgs 0 args .l, args.length + (fn.ntmps - args.length), H, nx, [], [], nx⟩ = some (e, ⟨T, N, H1, nx1, wr1, df1, mx1⟩) ∧
          unmark nx1 H1 df1 = some H2 ∧ evRes P T H2 fn.results.toList = some vs' ∧ nx ≤ nx1 ∧ r = ⟨gcA args nx H (lOf vs') H2 nx1 (addW df1 wr1), mx1⟩ := by
        cases hc : evC P call none L c ⟨ofArgs 0 args .l, args.length + (fn.ntmps - args.length), H, nx, [], [], nx⟩ with
        | none => simp [hc] at h
        | some q =>
          obtain ⟨e, T, N, H1, nx1, wr1, df1, mx1⟩ := q
          have fin : (match unmark nx1 H1 df1 with | some H' => (match evRes P T H' fn.results.toList with | some vs => bif Nat.ble nx nx1 then some (⟨gcA args nx H (lOf vs) H' nx1 (addW df1 wr1), mx1⟩ : Res) else none | none => none) | none => none) = some r → ∃ H2 vs', unmark nx1 H1 df1 = some H2 ∧ evRes P T H2 fn.results.toList = some vs' ∧ nx ≤ nx1 ∧ r = ⟨gcA args nx H (lOf vs') H2 nx1 (addW df1 wr1), mx1⟩ := fun h => by
            cases hu : unmark nx1 H1 df1 with
            | none => simp [hu] at h
            | some H2 =>
              simp only [hu] at h
              cases hr : evRes P T H2 fn.results.toList with
              | none => simp [hr] at h
              | some vs' =>
                simp only [hr] at h
                cases hle : Nat.ble nx nx1
                · simp [hle] at h
                · simp [hle] at h
                  exact ⟨H2, vs', rfl, hr, by simpa using hle, h.symm⟩
          cases e <;> simp only [hc] at h <;> try cases h
          · obtain ⟨H2, vs', k1, k2, k3, k4⟩ := fin h
            exact ⟨.normal, T, N, H1, nx1, wr1, df1, mx1, H2, vs', .inl rfl, rfl, k1, k2, k3, k4⟩
          · obtain ⟨H2, vs', k1, k2, k3, k4⟩ := fin h
            exact ⟨.ret, T, N, H1, nx1, wr1, df1, mx1, H2, vs', .inr rfl, rfl, k1, k2, k3, k4⟩
      obtain ⟨e, T, N, H1, nx1, wr1, df1, mx1, H2, vs', he, hc, hu, hres, hle, rfl⟩ := hkey
      refine ⟨fun args w => ?_, fun m => ?_⟩
      · have hn := hname g fn c hfn hb
        unfold callFunc
        simp only [Sem.run_bind, run_program, Result.andThen_ok, hfn, hn, hb]
        simp
      · refine callsIn_of_wp_marks hfn hb trivial ?_ rfl
        have hend : ∀ R' a' w', Ext R R' nx nx1 wr1 w w' → St R' ⟨T, N, H1, nx1, wr1, df1, mx1⟩ a' w' →
            LeavesInM (Fw none) m P fn a'.tmps (fun e w' => ∃ v, e = .returned v ∧ Did R nx (gcA args nx H (lOf vs') H2 nx1 (addW df1 wr1)) w w' v) a'.defers .returning w' := fun R' a' w' hx hs' => by
          refine unmark_ok hu hs'.D hs'.M fun w2 hx2 hm2 => ?_
          obtain ⟨v, hv, hrun⟩ := run_results (P := P) hs'.F hm2 hres
          exact ⟨v, hrun, v, rfl, gcA_ok hR ((hx.wider fun id hi => mem_addW.2 (.inr hi)).trans (hx2.wider fun id hi => mem_addW.2 (.inl hi)) hle (Nat.le_refl _)) hm2 hv⟩
        have hst : St R ⟨ofArgs 0 args .l, args.length + (fn.ntmps - args.length), H, nx, [], [], nx⟩ { tmps := vs.toArray ++ Array.replicate (fn.ntmps - vs.toArray.size) undef, defers := [] } w := ⟨fr_args hv, hR, rfl⟩
        refine evC_ok hcall hmix hc hst rfl hf _ fun R' a' w' hx hs' => ?_
        rcases he with rfl | rfl
        · exact hend R' a' w' hx hs'
        · exact hend R' a' w' hx hs'
theorem round_post {b : Nat} {Post : Ending → World → Prop} {e : Ex} {a : Act} {w : World} (h : ∃ v w', (Instr.endRound b e.code).run P w = .ok v w' ∧ Post (.returned v) w') : roundPost P b Post e.ex a w := by
  cases e <;> exact h
theorem call_r {L : Nat} {call : CallT} (hmix : P.follows .mixedOrders = true) (hcall : CallOK P call)
    {id : Nat} {args : List LV} {H : Hp} {nx : Nat} {r : Res} (h : evStep P L call (.r id) args H nx = some r) {R : Ren} {w : World} {vs : List Value} (hR : Rel R H w) (hv : VRL R args vs) (hf : Free R nx r.mx) :
    Runs P (.r id) R vs.toArray w fun e w' => ∃ v, e = .returned v ∧ Did R nx r.o w w' v := by
  intro b c hr
  simp only [evStep] at h
  split at h
  · rename_i pend N T ps as body0 d0 hg
    cases hb : (Nat.beq ps.size args.length && allLt N ps.toList && Nat.blt id nx)
    · simp [hb] at h
    · simp only [hb, cond_true] at h
      simp only [Bool.and_eq_true, beq_iff] at hb
      obtain ⟨⟨hsz, hlt⟩, hidn⟩ := hb
      have hidn : id < nx := by simpa using hidn
      split at h
      · rename_i T₁ N₁ H₁ nx₁ wr₁ df₁ mx₁ hc1
        split at h
        · rename_i pend1 N1 T1 ps1 as1 body1 d1 hg1
          simp only [Tr.force_eq] at h
          split at h
          · rename_i e T₂ N₂ H₂ nx₂ wr₂ df₂ mx₂ hc2
            split at h
            · rename_i pend2 N2 T2 ps2 as2 body2 d2 hg2
              cases hle : Nat.ble nx nx₂
              · simp [hle] at h
              · simp only [hle, cond_true, Option.some.injEq] at h
                subst h
                have hle : nx ≤ nx₂ := by simpa using hle
                have hu1 := evC_up hc1
                have hu2 := evC_up hc2
                have hn1 : nx ≤ nx₁ := hu1.nx
                have hn2 : nx₁ ≤ nx₂ := hu2.nx
                have hm12 : mx₁ ≤ mx₂ := hu2.mx
                have hf : Free R nx mx₂ := hf
                obtain ⟨b', c', hr', fn, tm, db, dc, hbk, hdd, hFT⟩ := hR.at_ id _ hg
                rw [hr] at hr'; cases hr'
                have hvl := hv.length
                refine ⟨fn, _, as, body0, run_yield hbk (by simp [hvl, hsz]), fun m => ?_⟩
                refine roundIn_of_wpIn trivial ?_
                have hfold : (ps.zip vs.toArray).foldl (fun tmps (x : Tmp × Value) => tmps.setIfInBounds x.1 x.2) tm = (ps.toList.zip vs).foldl (fun tmps (x : Tmp × Value) => tmps.setIfInBounds x.1 x.2) tm := by
                  rw [← Array.foldl_toList, Array.toList_zip]
                have hFp := fr_puts hFT hlt hv
                rw [← hfold] at hFp
                have hst0 : St R ⟨putArgs ps.toList args T, N, H, nx, [], [], nx⟩ { tmps := (ps.zip vs.toArray).foldl (fun tmps (x : Tmp × Value) => tmps.setIfInBounds x.1 x.2) tm, defers := [] } w := ⟨hFp, hR, rfl⟩
                refine evC_ok (rb := some b) hcall hmix hc1 hst0 ⟨b, c, rfl, hr⟩ (hf.less hm12) _ ?_
                intro R1 a1 w1 hx1 hs1
                have hr1 : R1 id = some (b, c) := hx1.le _ _ hr
                obtain ⟨rec1, hb1, hst1, hpe1, hdid1⟩ := did_turn (lv := .b true) (v := .bool true) (st' := .busy) (pend' := pend1) hs1.M hg1 hr1 (show id < nx₁ by omega) rfl
                obtain ⟨R2, hx2, hm2⟩ := hdid1.lv
                have e1 : w1.putObj b (.loop { rec1 with state := .busy, pending := pend1 }) = w1.putObj b (.loop { rec1 with state := .busy }) := by rw [← hpe1]
                rw [e1] at hx2 hm2
                refine ⟨_, run_beginRound hb1 hst1, ?_⟩
                have hfree2 : Free R2 nx₁ mx₂ := (hf.after hx1 hn1).after hx2 (Nat.le_refl _)
                refine evC_ok (rb := some b) hcall hmix hc2 ⟨hs1.F.mono hx2.le, hm2, hs1.D.mono hx2.le⟩ ⟨b, c, rfl, hx2.le _ _ hr1⟩ hfree2 _ ?_
                intro R3 a3 w3 hx3 hs3
                have hr3 : R3 id = some (b, c) := hx3.le _ _ (hx2.le _ _ hr1)
                refine round_post ?_
                obtain ⟨rec3, hb3, hst3, hpe3, hdid3⟩ := did_turn (lv := .b true) (v := .bool true) (st' := e.st) (pend' := e.code) hs3.M hg2 hr3 (show id < nx₂ by omega) rfl
                obtain ⟨R4, hx4, hm4⟩ := hdid3.lv
                have hend := run_endRound (P := P) e.code hb3
                have e2 : (if e.code.isNone = true then LoopState.ready else LoopState.done) = e.st := by cases e <;> rfl
                rw [e2] at hend
                refine ⟨_, _, hend, _, rfl, gc_ok hR (R' := R4) ?_ hm4 ?_⟩
                · have m1 : ∀ i ∈ wr₁, i ∈ addW [id] wr₂ := fun i hi => mem_addW.2 (.inr (hu2.wr i (mem_addW.2 (.inr hi))))
                  have m2 : ∀ i ∈ [id], i ∈ addW [id] wr₂ := fun i hi => mem_addW.2 (.inl hi)
                  have m3 : ∀ i ∈ wr₂, i ∈ addW [id] wr₂ := fun i hi => mem_addW.2 (.inr hi)
                  exact (((hx1.wider m1).trans (hx2.wider m2) hn1 (Nat.le_refl _)).trans (hx3.wider m3) hn1 hn2).trans (hx4.wider m2) hle (Nat.le_refl _)
                · cases e <;> rfl
            · cases h
          · cases h
        · cases h
      · cases h
  · cases h
/-- **The run of a call says what the call does.** -/
theorem step_ok {L : Nat} {call : CallT} (hmix : P.follows .mixedOrders = true) (hname : ∀ (g : Nat) (fn : Func) (c : Code), P.funcs[g]? = some fn → fn.body = some c → (fn.name == "runtime.NumGoroutine") = false) (hcall : CallOK P call) : CallOK P (evStep P L call) := fun tg args H nx r h R w vs hR hv hf => by
  cases tg with
  | f g => exact call_f hmix hname hcall h hR hv hf
  | r id => exact call_r hmix hcall h hR hv hf
theorem evCall_ok {L : Nat} (hmix : P.follows .mixedOrders = true) (hname : ∀ (g : Nat) (fn : Func) (c : Code), P.funcs[g]? = some fn → fn.body = some c → (fn.name == "runtime.NumGoroutine") = false) : ∀ n, CallOK P (evCall P L n)
  | 0 => fun tg args H nx r h => by cases h
  | n + 1 => step_ok hmix hname (evCall_ok hmix hname n)
theorem same1_eq {x y : LV} (h : same1 x y = true) : x = y := by
  cases x <;> cases y <;> simp [same1] at h
  · rename_i a b; cases a <;> cases b <;> simp_all
  · obtain ⟨rfl, rfl⟩ := h; rfl
theorem sameL_eq : ∀ {l r : List LV}, sameL l r = true → l = r
  | [], [], _ => rfl
  | x :: l, y :: r, h => by
    simp [sameL] at h
    rw [same1_eq h.1, sameL_eq h.2]
  | [], _ :: _, h => by simp [sameL] at h
  | _ :: _, [], h => by simp [sameL] at h
theorem same_eq {x y : LV} (h : same x y = true) : x = y := by
  unfold same at h
  split at h
  · rw [sameL_eq h]
  · rw [sameL_eq h]
  · exact same1_eq h
/-- What is told of the known calls. -/
def TabOK (P : Program) (tab : Tab) : Prop := ∀ x ∈ tab, ∀ y ∈ x.2, ∀ (R : Ren) (w : World) (vs : List Value), VRL R y.1 vs → Runs P (.f x.1) R vs.toArray w fun e w' => ∃ u, e = .returned u ∧ VR R y.2 u ∧ Go.RowKit.Below w.heap.size w w'
theorem lookIn_mem {as : List LV} {v : LV} : ∀ {t : List (List LV × LV)}, lookIn as t = some v → (as, v) ∈ t
  | [], h => by cases h
  | (as', v') :: t, h => by
    simp only [lookIn] at h
    cases hc : sameL as as'
    · simp only [hc, cond_false] at h
      exact List.mem_cons_of_mem _ (lookIn_mem h)
    · simp only [hc, cond_true, Option.some.injEq] at h
      rw [sameL_eq hc, h]
      exact List.mem_cons_self
theorem look_mem {g : FuncId} {as : List LV} {v : LV} : ∀ {t : Tab}, look g as t = some v → ∃ l, (g, l) ∈ t ∧ (as, v) ∈ l
  | [], h => by cases h
  | (g', l) :: t, h => by
    simp only [look] at h
    cases hc : Nat.beq g g'
    · simp only [hc, cond_false] at h
      obtain ⟨l', h1, h2⟩ := look_mem h
      exact ⟨l', List.mem_cons_of_mem _ h1, h2⟩
    · simp only [hc, cond_true] at h
      rw [Nat.eq_of_beq_eq_true hc]
      exact ⟨l, List.mem_cons_self, lookIn_mem h⟩
theorem known_ok {tab : Tab} {call : CallT} (ht : TabOK P tab) (hcall : CallOK P call) : CallOK P (known tab call) := fun tg args H nx r h R w vs hR hv hf => by
  cases tg with
  | r id => exact hcall _ args H nx r h R w vs hR hv hf
  | f g =>
    simp only [known] at h
    cases hl : look g args tab with
    | none => simp only [hl] at h; exact hcall _ args H nx r h R w vs hR hv hf
    | some v =>
      simp only [hl, Option.some.injEq] at h; subst h
      obtain ⟨l, m1, m2⟩ := look_mem hl
      obtain ⟨h1, h2⟩ := ht _ m1 _ m2 R w vs hv
      refine ⟨h1, fun n => (h2 n).mono ?_⟩
      rintro e w' ⟨u, rfl, hu, bel⟩
      exact ⟨u, rfl, R, ⟨Le.refl R, fun _ _ => rfl, bel.size, fun b hb _ => bel.block b hb, fun _ _ _ h1 h2 _ => by dsimp only at h2; omega, ⟨bel.os, bel.tape, bel.output⟩⟩,
        ⟨fun id o ho => let ⟨b, c, hr, hh⟩ := hR.at_ id o ho; ⟨b, c, hr, hh.kept (bel.block b hh.lt)⟩, hR.inj⟩, hu⟩
/-- The run of g on these arguments, in an empty memory, gives v. -/
noncomputable def yields (P : Program) (L : Nat) (tab : Tab) (n : Nat) (g : FuncId) (as : List LV) (v : LV) : Bool :=
  LV.ltL 0 as && v.lt 0 && match evKnown P L tab n (.f g) as .l 0 with | some ⟨⟨u, _, _, _⟩, _⟩ => same u v | none => false
section
variable {L : Nat} {tab : Tab} (hmix : P.follows .mixedOrders = true) (hname : ∀ (g : Nat) (fn : Func) (c : Code), P.funcs[g]? = some fn → fn.body = some c → (fn.name == "runtime.NumGoroutine") = false) (ht : TabOK P tab)
include hmix hname ht
theorem evKnown_ok : ∀ n, CallOK P (evKnown P L tab n)
  | 0 => fun tg args H nx r h => by cases h
  | n + 1 => step_ok hmix hname (known_ok ht (evKnown_ok n))
/-- A call with arguments that bear no names, whose run gives a number or a truth value, does so in every world, and leaves what was there. -/
theorem one_known {n g : Nat} {as : List LV} {v : LV} (h : yields P L tab n g as v = true) (R : Ren) (w : World) (vs : List Value) (hv : VRL R as vs) :
    Runs P (.f g) R vs.toArray w fun e w' => ∃ u, e = .returned u ∧ VR R v u ∧ Go.RowKit.Below w.heap.size w w' := by
  simp only [yields, Bool.and_eq_true] at h
  obtain ⟨⟨hl, hw⟩, h⟩ := h
  split at h
  · rename_i u H nx wr mx hc
    have hlow : Agree 0 (fun _ => none) R := fun id hid => absurd hid (Nat.not_lt_zero _)
    have hrel : Rel (fun _ => none) .l w := ⟨fun id o ho => by simp [Tr.get_l] at ho, fun id id' o o' b c c' h1 => by simp [Tr.get_l] at h1⟩
    obtain ⟨h1, h2⟩ := evKnown_ok (L := L) hmix hname ht n (.f g) as .l 0 _ hc (fun _ => none) w vs hrel (hv.low hlow hl) (fun _ _ _ => rfl)
    refine ⟨h1, fun n => (h2 n).mono ?_⟩
    rintro e w' ⟨x, rfl, R', hx, _, hu⟩
    have he := same_eq h; subst he
    refine ⟨x, rfl, VR.mono (R := fun _ => none) (R' := R) (fun id x h => absurd h (by simp)) (VR.low (n := 0) (R := fun _ => none) (R' := R') (fun id hid => absurd hid (Nat.not_lt_zero _)) hw hu), hx.quiet.os, hx.quiet.tape, hx.quiet.output, hx.size, fun b hb => hx.keep b hb fun id _ hlt => absurd hlt (Nat.not_lt_zero _)⟩
  · cases h
theorem tab_one {n g : Nat} {as : List LV} {v : LV} (h : yields P L tab n g as v = true) : TabOK P ((g, [(as, v)]) :: tab) := fun x hx y hy => by
  rcases List.mem_cons.1 hx with rfl | hx
  · rw [List.mem_singleton.1 hy]
    exact one_known hmix hname ht h
  · exact ht x hx y hy
/-- A function without arguments whose run returns true, returns true, and leaves what was there. -/
theorem closed_known {n g : Nat} (h : yields P L tab n g [] (.b true) = true) (w : World) :
    Calls P g #[] w fun e w' => e = .returned (.bool true) ∧ Go.RowKit.Below w.heap.size w w' := by
  have := (one_known (L := L) (n := n) (g := g) (as := []) (v := .b true) hmix hname ht h (fun _ => none) w [] rfl).2
  have := (callsIn_wide (n := 0)).1 (show CallsIn Fence.wide 0 P g #[] w _ from this 0)
  refine this.mono ?_
  rintro e w' ⟨u, rfl, hu, bel⟩
  rw [show u = .bool true from hu]
  exact ⟨rfl, bel⟩
end
/-- One more call of the function that comes first. -/
theorem tab_more {L : Nat} {tab : Tab} (hmix : P.follows .mixedOrders = true) (hname : ∀ (g : Nat) (fn : Func) (c : Code), P.funcs[g]? = some fn → fn.body = some c → (fn.name == "runtime.NumGoroutine") = false) {n g : Nat} {l : List (List LV × LV)} (ht : TabOK P ((g, l) :: tab))
    {as : List LV} {v : LV} (h : yields P L ((g, l) :: tab) n g as v = true) : TabOK P ((g, (as, v) :: l) :: tab) := fun x hx y hy => by
  rcases List.mem_cons.1 hx with rfl | hx
  · rcases List.mem_cons.1 hy with rfl | hy
    · exact one_known hmix hname ht h
    · exact ht _ List.mem_cons_self y hy
  · exact ht x (List.mem_cons_of_mem _ hx) y hy
theorem tab_none : TabOK P [] := fun x hx => by cases hx
end Go.Rx
