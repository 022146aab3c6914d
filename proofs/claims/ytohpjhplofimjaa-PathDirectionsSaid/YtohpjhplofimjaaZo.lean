/-
  A region that draws its order: what each operation waits for; what one looks at. No program.
-/
import Derived.Test.YtohpjhplofimjaaZn
import Derived.OrdersIn
set_option linter.unusedSimpArgs false
set_option linter.unusedVariables false
set_option linter.unusedSectionVars false
namespace Go.Rx
open Go
variable {P : Program}

/-! ### What an operation looks at -/
theorem evOs_congr {T T' : Tr LV} : ∀ {l : List Operand}, (∀ x ∈ l, evO T x = evO T' x) → evOs T l = evOs T' l
  | [], _ => rfl
  | x :: l, h => by
    simp only [evOs]
    rw [h x (by simp), evOs_congr (l := l) fun y hy => h y (by simp [hy])]
theorem parts_congr {T T' : Tr LV} : ∀ {l : List (Nat × Operand)}, (∀ x ∈ l.map (·.2), evO T x = evO T' x) → parts T l = parts T' l
  | [], _ => rfl
  | (i, x) :: l, h => by
    simp only [parts]
    rw [h x (by simp), parts_congr (l := l) fun y hy => h y (by simp at hy ⊢; exact .inr hy)]
theorem bnds_congr {T T' : Tr LV} {len cap : Nat} {lo hi mx : Option Operand} (h1 : ∀ x, lo = some x → evO T x = evO T' x) (h2 : ∀ x, hi = some x → evO T x = evO T' x) (h3 : ∀ x, mx = some x → evO T x = evO T' x) : bnds T len cap lo hi mx = bnds T' len cap lo hi mx := by
  unfold bnds
  cases lo <;> cases hi <;> cases mx <;> simp_all
theorem evPure_congr {T T' : Tr LV} {op : Op} (h : ∀ x ∈ op.operands, evO T x = evO T' x) : evPure P T op = evPure P T' op := by
  cases op <;> simp only [evPure]
  case move x => exact h x (by simp [Op.operands])
  case assign x => exact h x (by simp [Op.operands])
  case pick c x y => simp only [evPick, h c (by simp [Op.operands]), h x (by simp [Op.operands]), h y (by simp [Op.operands])]
  case nilCheck x => simp only [evNil, h x (by simp [Op.operands])]
  case build t ps => simp only [evBuild, parts_congr (l := ps.toList) (T := T) (T' := T') fun x hx => h x (by simpa [Op.operands] using hx)]
  case binOp op t x y yt => simp only [evBinO, h x (by simp [Op.operands]), h y (by simp [Op.operands])]
  case unOp op t x => simp only [evUn, h x (by simp [Op.operands])]
  case convert s d x => simp only [evConv, h x (by simp [Op.operands])]
  case makeFunc f x c =>
    cases f <;> simp only
    simp only [evMkFn, evOs_congr (l := x.toList) (T := T) (T' := T') fun y hy => h y (by simp [Op.operands]; simp at hy; exact .inl hy), evOs_congr (l := c.toList) (T := T) (T' := T') fun y hy => h y (by simp [Op.operands]; simp at hy; exact .inr hy)]
  case makeInterface t x => simp only [evMkIf, h x (by simp [Op.operands])]
  case field t x f => simp only [evField, h x (by simp [Op.operands])]
  case index t x ix => simp only [evIndex, evIdxA, evIdxS, h x (by simp [Op.operands]), h ix (by simp [Op.operands])]
  case fieldAddr t x f => simp only [evFAddr, h x (by simp [Op.operands])]
  case indexAddr t x ix => simp only [evIAddr, h x (by simp [Op.operands]), h ix (by simp [Op.operands])]
  case slice t x lo hi mx =>
    have hb : ∀ len cap, bnds T len cap lo hi mx = bnds T' len cap lo hi mx := fun len cap => bnds_congr (fun y e => h y (by simp [Op.operands, e])) (fun y e => h y (by simp [Op.operands, e])) (fun y e => h y (by simp [Op.operands, e]))
    have hb' : ∀ len cap, bnds T len cap lo hi none = bnds T' len cap lo hi none := fun len cap => bnds_congr (fun y e => h y (by simp [Op.operands, e])) (fun y e => h y (by simp [Op.operands, e])) (fun y e => by cases e)
    simp only [evSliceO, h x (by simp [Op.operands]), evSlice, hb, hb']
  case extract x k => simp only [evExtract, h x (by simp [Op.operands])]
theorem evOp_congr {call : CallT} {T T' : Tr LV} {H : Hp} {nx : Nat} {op : Op} (h : ∀ x ∈ op.operands, evO T x = evO T' x) : evOp P call T H nx op = evOp P call T' H nx op := by
  cases op <;> simp only [evOp]
  case load t x => simp only [evLoad, h x (by simp [Op.operands])]
  case store t x y => simp only [evStore, h x (by simp [Op.operands]), h y (by simp [Op.operands])]
  case box t x => simp only [evBox, h x (by simp [Op.operands])]
  case buildSlice t len ps => simp only [evBuildSl, parts_congr (l := ps.toList) (T := T) (T' := T') fun x hx => h x (by simpa [Op.operands] using hx)]
  case makeSlice t l c => simp only [evMakeSl, h l (by simp [Op.operands]), h c (by simp [Op.operands])]
  case call c =>
    obtain ⟨callee, args, ts⟩ := c
    have ha := evOs_congr (l := args.toList) (T := T) (T' := T') fun y hy => h y (by simp [Op.operands, Call.operands]; simp at hy; exact .inr hy)
    cases callee with
    | value f => simp only [evCallee, ha, h f (by simp [Op.operands, Call.operands])]
    | builtin b => simp only [evCallee, ha]
    | invoke x m => rfl
  all_goals (simp only [evPureO]; rw [evPure_congr h])
theorem want_congr {ops : Array Oper} {T T' : Tr LV} {o : Oper} (h : ∀ t ∈ o.looksAt ops, T.get t = T'.get t) : want ops T o = want ops T' o := by
  unfold want
  cases hg : o.guard with
  | none => rfl
  | some q =>
    obtain ⟨j, wn⟩ := q
    simp only
    cases hd : (ops[j]?).bind (·.dst) with
    | none => rfl
    | some d => simp only [h d (by simp [Oper.looksAt, hg, hd])]
/-- A frame of which only some temporaries are known. -/
noncomputable def only (T : Tr LV) : List Nat → Tr LV
  | [] => .l
  | t :: l => (only T l).set t (T.get t)
theorem get_only (T : Tr LV) : ∀ (l : List Nat) (t : Nat), (only T l).get t = if t ∈ l then T.get t else none
  | [], t => by simp [only, Tr.get_l]
  | x :: l, t => by
    rw [only, Tr.get_set, get_only T l]
    by_cases e : t = x
    · subst e; simp
    · simp [e]
theorem evO_only {ops : Array Oper} {T : Tr LV} {o : Oper} {x : Operand} (hx : x ∈ o.op.operands) : evO (only T (o.looksAt ops)) x = evO T x := by
  cases x with
  | tmp t =>
    have : t ∈ o.looksAt ops := List.mem_append_left _ (List.mem_filterMap.2 ⟨.tmp t, by simpa using hx, rfl⟩)
    simp [evO, get_only, this]
  | _ => rfl

/-! ### What an operation waits for -/
theorem testBit_edge {ms : Tr Nat} {i : Nat} : ∀ {l : List Edge}, (edgeMask ms l).testBit i = true ↔ ∃ e ∈ l, Region.binds .any e = true ∧ (e.on = i ∨ ((ms.get e.on).getD 0).testBit i = true)
  | [] => by simp [edgeMask]
  | e :: l => by
    simp only [edgeMask]
    cases hb : Region.binds .any e
    · simp only [cond_false, testBit_edge (l := l), List.mem_cons]
      constructor
      · rintro ⟨x, h1, h2⟩; exact ⟨x, .inr h1, h2⟩
      · rintro ⟨x, rfl | h1, h2, h3⟩
        · rw [hb] at h2; cases h2
        · exact ⟨x, h1, h2, h3⟩
    · simp only [cond_true]
      have e1 : ∀ x y : Nat, Nat.lor x y = x ||| y := fun _ _ => rfl
      have e2 : Nat.pow 2 e.on = 2 ^ e.on := rfl
      rw [e1, e1, e2, Nat.testBit_or, Nat.testBit_or, Nat.testBit_two_pow, Bool.or_eq_true, Bool.or_eq_true, testBit_edge (l := l)]
      simp only [decide_eq_true_eq, List.mem_cons]
      constructor
      · rintro ((h | h) | ⟨x, h1, h2⟩)
        · exact ⟨e, .inl rfl, hb, .inl h⟩
        · exact ⟨e, .inl rfl, hb, .inr h⟩
        · exact ⟨x, .inr h1, h2⟩
      · rintro ⟨x, rfl | h1, h2, h3⟩
        · exact .inl h3
        · exact .inr ⟨x, h1, h2, h3⟩
noncomputable def dep (ms : Tr Nat) (k i : Nat) : Bool := ((ms.get k).getD 0).testBit i
theorem pairs_ok {ops : Array Oper} {ms : Tr Nat} {k : Nat} {o : Oper} {m : Nat} : ∀ {l : List Oper} {j : Nat}, pairsOK ops ms k o m j l = true → ∀ (i : Nat) (oi : Oper), l[i]? = some oi →
    if m.testBit (j + i) then j + i < k ∧ ∃ mi, ms.get (j + i) = some mi ∧ mi &&& m = mi else (k ≤ j + i ∨ oi.apart ops o = true)
  | [], _, _, i, oi, h => by simp at h
  | x :: l, j, h, i, oi, hi => by
    have h' : pairsOK ops ms k o m (j + 1) l = true ∧ (if m.testBit j then j < k ∧ ∃ mi, ms.get j = some mi ∧ mi &&& m = mi else (k ≤ j ∨ x.apart ops o = true)) := by
      simp only [pairsOK] at h
      cases hb : m.testBit j
      · rw [hb] at h
        cases hk : Nat.ble k j
        · rw [hk] at h
          cases ha : x.apart ops o
          · rw [ha] at h; cases h
          · rw [ha] at h; exact ⟨h, by simp⟩
        · rw [hk] at h; exact ⟨h, by simp; exact .inl (by simpa using hk)⟩
      · rw [hb] at h
        cases hk : Nat.blt j k
        · rw [hk] at h; cases h
        · rw [hk] at h
          cases hg : ms.get j with
          | none => rw [hg] at h; cases h
          | some mi =>
            rw [hg] at h
            cases hq : Nat.beq (Nat.land mi m) mi
            · simp only [hq] at h; cases h
            · simp only [hq] at h
              exact ⟨h, by simp; exact ⟨by simpa using hk, (beq_iff _ _).1 hq⟩⟩
    cases i with
    | zero => simp at hi; subst hi; exact h'.2
    | succ i =>
      have := pairs_ok h'.1 i oi (by simpa using hi)
      rwa [show j + 1 + i = j + (i + 1) by omega] at this
theorem reg_ok {ops : Array Oper} {ms : Tr Nat} : ∀ {l : List Oper} {j : Nat}, regFrom ops ms j l = true → ∀ (i : Nat) (o : Oper), l[i]? = some o →
    ∃ m, ms.get (j + i) = some m ∧ m = edgeMask ms o.after.toList ∧ m < 2 ^ (j + i) ∧ pairsOK ops ms (j + i) o m 0 ops.toList = true
  | [], _, _, i, o, h => by simp at h
  | x :: l, j, h, i, o, hi => by
    simp only [regFrom] at h
    cases hg : ms.get j with
    | none => rw [hg] at h; cases h
    | some m =>
      rw [hg] at h
      simp only [Bool.and_eq_true, beq_iff] at h
      obtain ⟨⟨⟨⟨h1, h2⟩, h3⟩, h4⟩, h5⟩ := h
      cases i with
      | zero => simp at hi; subst hi; exact ⟨m, hg, h1, by simpa using h2, h4⟩
      | succ i =>
        have := reg_ok h5 i o (by simpa using hi)
        rwa [show Nat.succ j + i = j + (i + 1) by omega] at this
/-- A region's order, as it was found. -/
structure Order (ops : Array Oper) (ms : Tr Nat) : Prop where
  lt : ∀ {k i}, k < ops.size → dep ms k i = true → i < k
  trans : ∀ {k i j}, k < ops.size → dep ms k i = true → dep ms i j = true → dep ms k j = true
  apart : ∀ {k i ok oi}, ops[k]? = some ok → ops[i]? = some oi → i < k → dep ms k i = false → oi.apart ops ok = true
  edge : ∀ {k ok}, ops[k]? = some ok → ∀ e ∈ ok.after, Region.binds .any e = true → dep ms k e.on = true
  edges : ∀ {k ok i}, ops[k]? = some ok → dep ms k i = true → ∃ e ∈ ok.after, Region.binds .any e = true ∧ (e.on = i ∨ dep ms e.on i = true)
  has : ∀ {k}, k < ops.size → ∃ m, ms.get k = some m
theorem order_of {ops : Array Oper} {ms : Tr Nat} (h : regOK ops ms = true) : Order ops ms := by
  have hk : ∀ {k ok}, ops[k]? = some ok → ∃ m, ms.get k = some m ∧ m = edgeMask ms ok.after.toList ∧ m < 2 ^ k ∧ pairsOK ops ms k ok m 0 ops.toList = true := fun {k ok} hok => by
    have := reg_ok h k ok (by simpa using hok)
    simpa using this
  have ex : ∀ {k}, k < ops.size → ∃ ok, ops[k]? = some ok := fun {k} hk => ⟨ops[k], by simp [hk]⟩
  have hlt : ∀ {k i}, k < ops.size → dep ms k i = true → i < k := fun {k i} hks hd => by
    obtain ⟨ok, hok⟩ := ex hks
    obtain ⟨m, hm, _, hlt, _⟩ := hk hok
    simp only [dep, hm, Option.getD_some] at hd
    rcases Nat.lt_or_ge i k with hlt' | hge
    · exact hlt'
    · rw [Nat.testBit_lt_two_pow (Nat.lt_of_lt_of_le hlt (Nat.pow_le_pow_right (by omega) hge))] at hd; cases hd
  refine ⟨hlt, fun {k i j} hks hd hij => ?_, fun {k i ok oi} hok hoi hik hd => ?_, fun {k ok} hok e he hb => ?_, fun {k ok i} hok hd => ?_, fun {k} hks => ?_⟩
  · obtain ⟨ok, hok⟩ := ex hks
    obtain ⟨m, hm, _, _, hp⟩ := hk hok
    have hi := hlt hks hd
    obtain ⟨oi, hoi⟩ := ex (show i < ops.size by omega)
    have := pairs_ok hp i oi (by simpa using hoi)
    simp only [dep, hm, Option.getD_some] at hd ⊢
    simp only [Nat.zero_add, hd, if_true] at this
    obtain ⟨_, mi, hmi, hland⟩ := this
    simp only [dep, hmi, Option.getD_some] at hij
    rw [← hland, Nat.testBit_and, Bool.and_eq_true] at hij
    exact hij.2
  · obtain ⟨m, hm, _, _, hp⟩ := hk hok
    have := pairs_ok hp i oi (by simpa using hoi)
    simp only [dep, hm, Option.getD_some] at hd
    simp only [Nat.zero_add, hd] at this
    simp at this
    exact this.resolve_left (by omega)
  · obtain ⟨m, hm, he', _, _⟩ := hk hok
    simp only [dep, hm, Option.getD_some]
    rw [he', testBit_edge]
    exact ⟨e, by simpa using he, hb, .inl rfl⟩
  · obtain ⟨m, hm, he', _, _⟩ := hk hok
    simp only [dep, hm, Option.getD_some] at hd
    rw [he', testBit_edge] at hd
    obtain ⟨e, h1, h2, h3⟩ := hd
    exact ⟨e, by simpa using h1, h2, h3⟩
  · obtain ⟨ok, hok⟩ := ex hks
    obtain ⟨m, hm, _⟩ := hk hok
    exact ⟨m, hm⟩
end Go.Rx
