/-
  What the run of closed code says of the machine: calls; the theorem. No program.
-/
import Derived.Test.YtohpjhplofimjaaZv
set_option linter.unusedSimpArgs false
set_option linter.unusedVariables false
set_option linter.unusedSectionVars false
namespace Go.Rx
open Go
variable {P : Program}

/-! ### Values that name no new block -/
def Agree (n : Nat) (R R' : Ren) : Prop := ∀ id, id < n → R' id = R id
mutual
theorem VR.low {n : Nat} {R R' : Ren} (h : Agree n R R') : ∀ {lv : LV} {v : Value}, lv.lt n = true → VR R' lv v → VR R lv v
  | .b _, _, _, hv => hv
  | .i _ _, _, _, hv => hv
  | .s _, _, _, hv => hv
  | .nilp, _, _, hv => hv
  | .p id _, _, hl, hv => by obtain ⟨b, c, hr, e⟩ := hv; exact ⟨b, c, (h id (by simpa [LV.lt] using hl)) ▸ hr, e⟩
  | .nils, _, _, hv => hv
  | .sl id _ _ _, _, hl, hv => by obtain ⟨b, c, hr, e⟩ := hv; exact ⟨b, c, (h id (by simpa [LV.lt] using hl)) ▸ hr, e⟩
  | .gs id _ _ _, _, hl, hv => by obtain ⟨b, c, hr, e⟩ := hv; exact ⟨b, c, (h id (by simpa [LV.lt] using hl)) ▸ hr, e⟩
  | .fn _ _ _, _, hl, hv => by
    simp only [LV.lt, Bool.and_eq_true] at hl
    obtain ⟨a, c, e, h1, h2⟩ := hv; exact ⟨a, c, e, VRL.low h hl.1 h1, VRL.low h hl.2 h2⟩
  | .yld id, _, hl, hv => by obtain ⟨b, c, hr, e⟩ := hv; exact ⟨b, c, (h id (by simpa [LV.lt] using hl)) ▸ hr, e⟩
  | .nilf, _, _, hv => hv
  | .nilm, _, _, hv => hv
  | .mp id, _, hl, hv => by obtain ⟨b, c, hr, e⟩ := hv; exact ⟨b, c, (h id (by simpa [LV.lt] using hl)) ▸ hr, e⟩
  | .ifc _ x, _, hl, hv => by obtain ⟨y, e, h1⟩ := hv; exact ⟨y, e, VR.low h (lv := x) (by simpa only [LV.lt] using hl) h1⟩
  | .nili, _, _, hv => hv
  | .agg l, _, hl, hv => by obtain ⟨a, e, h1⟩ := hv; exact ⟨a, e, VRL.low h (l := l) (by simpa only [LV.lt] using hl) h1⟩
  | .tup l, _, hl, hv => by obtain ⟨a, e, h1⟩ := hv; exact ⟨a, e, VRL.low h (l := l) (by simpa only [LV.lt] using hl) h1⟩
theorem VRL.low {n : Nat} {R R' : Ren} (h : Agree n R R') : ∀ {l : List LV} {vs : List Value}, LV.ltL n l = true → VRL R' l vs → VRL R l vs
  | [], _, _, hv => hv
  | _ :: _, _, hl, hv => by
    simp only [LV.ltL, Bool.and_eq_true] at hl
    obtain ⟨y, r, e, h1, h2⟩ := hv; exact ⟨y, r, e, VR.low h hl.1 h1, VRL.low h hl.2 h2⟩
end
theorem Tr.ltT_ok {n : Nat} : ∀ {T : Tr LV}, Tr.ltT n T = true → ∀ t lv, T.get t = some lv → lv.lt n = true
  | .l, _, t, lv, h => by simp [Tr.get_l] at h
  | .n v a b, hl, t, lv, h => by
    simp only [Tr.ltT, Bool.and_eq_true] at hl
    rw [Tr.get_n] at h
    split at h
    · subst h; exact hl.1.1
    · split at h
      · exact Tr.ltT_ok hl.1.2 _ lv h
      · exact Tr.ltT_ok hl.2 _ lv h
theorem Holds.low {n : Nat} {R R' : Ren} (h : Agree n R R') {w : World} {b c : Nat} {o : LO} (hl : o.lt n = true) (ho : Holds R' w b c o) : Holds R w b c o := by
  cases o with
  | row t cs => obtain ⟨vs, h1, h2⟩ := ho; exact ⟨vs, h1, h2.low h hl⟩
  | gro t z cs => obtain ⟨n, xs, h1, h2⟩ := ho; exact ⟨n, xs, h1, h2.low h hl⟩
  | ro base cs =>
    refine ⟨ho.1, fun i lv hi => (ho.2 i lv hi).imp fun v hv => ⟨hv.1, hv.2.low h ?_⟩⟩
    have key : ∀ (l : List LV), LV.ltL n l = true → ∀ x ∈ l, x.lt n = true := by
      intro l
      induction l with
      | nil => intro _ x hx; cases hx
      | cons y l ih =>
        intro hl x hx
        simp only [LV.ltL, Bool.and_eq_true] at hl
        rcases List.mem_cons.1 hx with rfl | hx
        · exact hl.1
        · exact ih hl.2 x hx
    exact key cs hl lv (List.mem_of_getElem? hi)
  | loop st pend N T ps as body d =>
    simp only [LO.lt, Bool.and_eq_true] at hl
    obtain ⟨fn, tm, db, dc, h1, h2, h3⟩ := ho
    exact ⟨fn, tm, db, dc, h1, (h d (by simpa using hl.1)) ▸ h2, h3.size, fun t lv ht => (h3.at_ t lv ht).low h (Tr.ltT_ok hl.2 t lv ht)⟩
  | dfr => exact ho
theorem objs_ok {n : Nat} {H H₀ : Hp} : ∀ {l : List Nat}, objsBelow n H H₀ l = true → ∀ id ∈ l, (∃ o, H₀.get id = some o) ∧ ∀ o, H.get id = some o → o.lt n = true
  | [], _, id, h => by cases h
  | x :: l, h, id, hi => by
    simp only [objsBelow, Bool.and_eq_true] at h
    rcases List.mem_cons.1 hi with rfl | hi
    · refine ⟨?_, fun o ho => ?_⟩
      · cases hg : H₀.get id with
        | none => rw [hg] at h; exact absurd h.1.1 (by simp)
        | some o => exact ⟨o, rfl⟩
      · have := h.1.2; rw [ho] at this; exact this
    · exact objs_ok h.2 id hi
theorem get_back {H : Hp} : ∀ {l : List Nat} {H₀ : Hp} {id : Nat}, (back H l H₀).get id = if id ∈ l then H.get id else H₀.get id
  | [], H₀, id => by simp [back]
  | x :: l, H₀, id => by
    rw [back, Tr.force_eq, get_back (l := l)]
    by_cases h : id ∈ l
    · simp [h]
    · rw [if_neg h, Tr.get_set]
      by_cases e : id = x
      · subst e; simp
      · simp [e, h]
theorem below_match (nx : Nat) (wr : List Nat) (H₀ : Hp) (v : LV) (H : Hp) (nx' : Nat) : gc nx H₀ v H nx' wr =
    (if below nx wr = [] then (bif v.lt nx then ⟨v, H₀, nx, []⟩ else ⟨v, H, nx', []⟩) else (bif v.lt nx && objsBelow nx H H₀ (below nx wr) then ⟨v, back H (below nx wr) H₀, nx, below nx wr⟩ else ⟨v, H, nx', below nx wr⟩)) := by
  unfold gc
  cases h : below nx wr with
  | nil => simp
  | cons x l => simp [Tr.force_eq]
/-- What is given back behind a call. -/
theorem gc_ok {R R' : Ren} {H₀ H : Hp} {nx nx' : Nat} {wr : List Nat} {w w' : World} {lv : LV} {v : Value} (hR : Rel R H₀ w) (hx : Ext R R' nx nx' wr w w') (hm : Rel R' H w') (hv : VR R' lv v) : Did R nx (gc nx H₀ lv H nx' wr) w w' v := by
  have hag : Agree nx R R' := fun id hid => hx.out id (.inl hid)
  have hkeep : ∀ b, b < w.heap.size → (∀ id ∈ below nx wr, id < nx → ∀ c, R id ≠ some (b, c)) → w'.heap[b]? = w.heap[b]? := fun b hb hn => hx.keep b hb fun id hi hlt => hn id (mem_below.2 ⟨hi, hlt⟩) hlt
  have hx' : Ext R R' nx nx' (below nx wr) w w' := ⟨hx.le, hx.out, hx.size, hkeep, fun id b c h1 h2 h3 => (hx.new id b c h1 h2 h3).imp_right fun ⟨i, hi, hlt, r⟩ => ⟨i, mem_below.2 ⟨hi, hlt⟩, hlt, r⟩, hx.quiet⟩
  have hx0 : Ext R R nx nx (below nx wr) w w' := ⟨Le.refl R, fun _ _ => rfl, hx.size, hkeep, fun id b c h1 h2 _ => by omega, hx.quiet⟩
  rw [below_match]
  by_cases hb : below nx wr = []
  · rw [if_pos hb]
    rw [hb] at hx' hx0
    cases hl : lv.lt nx
    · exact ⟨R', hx', hm, hv⟩
    · exact ⟨R, hx0, ⟨fun id o ho => by
        obtain ⟨b, c, hr, hh⟩ := hR.at_ id o ho
        exact ⟨b, c, hr, hh.kept (hx0.keep b hh.lt fun i hi => by cases hi)⟩, hR.inj⟩, hv.low hag hl⟩
  · rw [if_neg hb]
    cases hl : (lv.lt nx && objsBelow nx H H₀ (below nx wr))
    · exact ⟨R', hx', hm, hv⟩
    · simp only [Bool.and_eq_true] at hl
      have hob := objs_ok hl.2
      simp only [cond_true]
      refine ⟨R, hx0, ⟨fun id o ho => ?_, fun id id' o o' b c c' h1 h2 r1 r2 => ?_⟩, hv.low hag hl.1⟩
      · rw [get_back] at ho
        by_cases hi : id ∈ below nx wr
        · rw [if_pos hi] at ho
          obtain ⟨b, c, hr, hh⟩ := hm.at_ id o ho
          rw [hag id (mem_below.1 hi).2] at hr
          exact ⟨b, c, hr, hh.low hag ((hob id hi).2 o ho)⟩
        · rw [if_neg hi] at ho
          obtain ⟨b, c, hr, hh⟩ := hR.at_ id o ho
          refine ⟨b, c, hr, hh.kept (hkeep b hh.lt fun i hi' _ c' hri => hi ?_)⟩
          obtain ⟨oi, hoi⟩ := (hob i hi').1
          rw [← hR.inj i id oi o b c' c hoi ho hri hr]; exact hi'
      · have ex : ∀ i x, (back H (below nx wr) H₀).get i = some x → ∃ y, H₀.get i = some y := fun i x hx => by
          rw [get_back] at hx
          by_cases hi : i ∈ below nx wr
          · exact (hob i hi).1
          · rw [if_neg hi] at hx; exact ⟨x, hx⟩
        obtain ⟨y1, g1⟩ := ex id o h1
        obtain ⟨y2, g2⟩ := ex id' o' h2
        exact hR.inj id id' y1 y2 b c c' g1 g2 r1 r2

/-! ### Frames -/
theorem get_ofArgs : ∀ {l : List LV} {k : Nat} {T : Tr LV} {t : Nat}, (ofArgs k l T).get t = if k ≤ t then (match l[t - k]? with | some x => some x | none => T.get t) else T.get t
  | [], k, T, t => by simp [ofArgs]
  | x :: l, k, T, t => by
    rw [ofArgs, Tr.force_eq, get_ofArgs (l := l), Tr.get_set]
    by_cases h : k + 1 ≤ t
    · have e : t - k = (t - (k + 1)) + 1 := by omega
      have h1 : k ≤ t := by omega
      have h2 : t ≠ k := by omega
      simp only [h, h1, h2, if_true, if_false, e, List.getElem?_cons_succ]
    · rw [if_neg h]
      by_cases e : t = k
      · subst e; simp
      · have h1 : ¬ k ≤ t := by omega
        simp only [e, h1, if_false]
theorem fr_args {R : Ren} {l : List LV} {vs : List Value} {m : Nat} (hv : VRL R l vs) : FR R (l.length + (m - l.length)) (ofArgs 0 l .l) (vs.toArray ++ Array.replicate (m - vs.toArray.size) undef) := by
  have hl := hv.length
  refine ⟨by simp [hl], fun t lv ht => ?_⟩
  rw [get_ofArgs] at ht
  simp only [Nat.zero_le, if_true, Nat.sub_zero] at ht
  cases hg : l[t]? with
  | none => rw [hg] at ht; simp [Tr.get_l] at ht
  | some x =>
    rw [hg] at ht; cases ht
    obtain ⟨u, hu, hr⟩ := hv.get hg
    have hlt : t < vs.length := (List.getElem?_eq_some_iff.1 hu).1
    have : (vs.toArray ++ Array.replicate (m - vs.toArray.size) undef)[t]? = some u := by
      rw [Array.getElem?_append_left (by simpa using hlt)]; simpa using hu
    rw [Array.getD_eq_getD_getElem?, this]; exact hr
theorem fr_put1 {R : Ren} {N : Nat} {T : Tr LV} {tm : Array Value} {p : Tmp} {lv : LV} {v : Value} (hF : FR R N T tm) (hp : p < N) (hv : VR R lv v) : FR R N (T.set p (some lv)) (tm.setIfInBounds p v) := by
  have := putT_ok (T' := T.set p (some lv)) (N := N) (T := T) (dst := some p) (lv := lv) (v := v) (a := { tmps := tm, defers := [] }) (by
    have e : Nat.blt p N = true := by simpa using hp
    simp [putT, Tr.force_eq, e]) hF hv
  exact this
theorem fr_puts {R : Ren} {N : Nat} : ∀ {ps : List Tmp} {l : List LV} {vs : List Value} {T : Tr LV} {tm : Array Value}, FR R N T tm → allLt N ps = true → VRL R l vs → FR R N (putArgs ps l T) ((ps.zip vs).foldl (fun tmps (t, a) => tmps.setIfInBounds t a) tm)
  | [], l, vs, T, tm, hF, _, _ => by cases l <;> simpa [putArgs] using hF
  | p :: ps, [], vs, T, tm, hF, _, hv => by rw [show vs = [] from hv]; simpa [putArgs] using hF
  | p :: ps, x :: l, vs, T, tm, hF, hlt, hv => by
    obtain ⟨y, r, rfl, h1, h2⟩ := hv
    simp only [allLt, Bool.and_eq_true] at hlt
    rw [putArgs, Tr.force_eq]
    exact fr_puts (fr_put1 hF (by simpa using hlt.1) h1) hlt.2 h2
/-! ### Results -/
/-- One result, as the machine reads it. -/
def resOne (tm : Array Value) (x : ResultVar) : Sem Value := match x with
  | .tmp t => pure (tm.getD t undef)
  | .cell a t => do loadVar t (← asAddr (tm.getD a undef))
theorem res_ok {R : Ren} {N : Nat} {T : Tr LV} {tm : Array Value} {H : Hp} {w : World} (hF : FR R N T tm) (hR : Rel R H w) : ∀ {l : List ResultVar} {vs : List LV}, evRes P T H l = some vs →
    ∃ us, VRL R vs us ∧ (l.mapM (resOne tm)).run P w = .ok us w
  | [], vs, h => by simp [evRes] at h; subst h; exact ⟨[], rfl, rfl⟩
  | .tmp t :: l, vs, h => by
    simp only [evRes] at h
    cases ht : T.get t with
    | none => simp [ht] at h
    | some v =>
      cases hr : evRes P T H l with
      | none => simp [ht, hr] at h
      | some m =>
        simp [ht, hr] at h; subst h
        obtain ⟨us, hus, hrun⟩ := res_ok hF hR hr
        exact ⟨_ :: us, VRL.cons (hF.at_ t v ht) hus, by simp only [List.mapM_cons, resOne, Sem.run_bind, Sem.run_pure, Result.andThen_ok, hrun]⟩
  | .cell ad t :: l, vs, h => by
    simp only [evRes] at h
    cases ht : T.get ad with
    | none => simp [ht] at h
    | some v =>
      cases hr : evRes P T H l with
      | none => cases v <;> simp [ht, hr] at h
      | some m =>
        have hv := hF.at_ ad v ht
        cases v <;> simp only [ht, hr] at h <;> try cases h
        rename_i id off
        cases hg : H.get id with
        | none => simp [hg] at h
        | some ob =>
          simp only [hg] at h
          cases hc : ob.cs with
          | none => simp [hc] at h
          | some cs =>
            simp only [hc] at h
            cases hp : prt P t cs off with
            | none => simp [hp] at h
            | some lv =>
              simp [hp] at h; subst h
              obtain ⟨b, c, hrr, e⟩ := hv
              obtain ⟨b', c', hr', hh⟩ := hR.at_ id ob hg
              rw [hrr] at hr'; cases hr'
              obtain ⟨cur, ty, hb, hcv⟩ := hh.view hc
              obtain ⟨v, hvr, hl⟩ := run_view (P := P) hb hcv hp
              obtain ⟨us, hus, hrun⟩ := res_ok hF hR hr
              exact ⟨_ :: us, VRL.cons hvr hus, by simp only [List.mapM_cons, resOne, Sem.run_bind, e, asAddr, Sem.run_pure, Result.andThen_ok, hl, hrun]⟩
theorem lOf_ok {R : Ren} {vs : List LV} {us : List Value} (h : VRL R vs us) : VR R (lOf vs) (if h : us.toArray.size = 1 then us.toArray[0] else .tuple us.toArray) := by
  cases vs with
  | nil => rw [show us = [] from h]; exact ⟨#[], rfl, rfl⟩
  | cons x l =>
    obtain ⟨y, r, rfl, h1, h2⟩ := h
    cases l with
    | nil => rw [show r = [] from h2]; exact h1
    | cons x2 l =>
      obtain ⟨y2, r2, rfl, h3, h4⟩ := h2
      rw [dif_neg (by simp)]
      exact ⟨_, rfl, VRL.cons h1 (VRL.cons h3 h4)⟩
theorem run_results {R : Ren} {N : Nat} {T : Tr LV} {tm : Array Value} {H : Hp} {w : World} (hF : FR R N T tm) (hR : Rel R H w) {fn : Func} {vs : List LV} (h : evRes P T H fn.results.toList = some vs) :
    ∃ v, VR R (lOf vs) v ∧ (results fn tm).run P w = .ok v w := by
  obtain ⟨us, hus, hrun⟩ := res_ok (P := P) hF hR h
  refine ⟨_, lOf_ok hus, ?_⟩
  have e : results fn tm = (do let vs ← fn.results.mapM (resOne tm); pure (if h : vs.size = 1 then vs[0] else .tuple vs)) := by
    unfold results
    congr 1
  rw [e, Array.mapM_eq_mapM_toList]
  simp only [Sem.run_bind, Sem.run_map, hrun, Result.andThen_ok, Sem.run_pure]
end Go.Rx
