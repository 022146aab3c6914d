/-
  What the run of closed code says of the machine: every operation, calls too, where the calls' run is right. No program.
-/
import Derived.Test.YtohpjhplofimjaaZl
set_option linter.unusedSimpArgs false
set_option linter.unusedVariables false
set_option linter.unusedSectionVars false
namespace Go.Rx
open Go
variable {P : Program} {R : Ren} {N : Nat} {T : Tr LV} {a : Act} {H : Hp} {w : World} {nx : Nat}

theorem evBuiltin_ok (hR : Rel R H w) {b : Builtin} {ts : List TypeId} {args : List LV} {r : Out} (hf : Free R nx r.nx) (h : evBuiltin P b ts args H nx = some r) {vs : List Value} (hv : VRL R args vs) (ty : TypeId) (consts : Array Bool) :
    ∃ v w', (builtin b ts.toArray ty consts vs.toArray).run P w = .ok (.value v) w' ∧ Did R nx r w w' v := by
  unfold evBuiltin at h
  split at h
  · rename_i t u s x
    cases hb : Nat.beq t u
    · simp [hb] at h
    · simp only [hb, cond_true] at h
      have := (beq_iff _ _).1 hb
      subst this
      obtain ⟨v1, r1, rfl, h1, h2⟩ := hv
      obtain ⟨v2, r2, rfl, h3, h4⟩ := h2
      rw [show r2 = [] from h4]
      obtain ⟨v, w', hrun, hd⟩ := evAppend_ok (ty := ty) hR hf h h1 h3
      exact ⟨v, w', by simp [builtin, hrun], hd⟩
  · rename_i t x
    obtain ⟨v1, r1, rfl, h1, h2⟩ := hv
    rw [show r1 = [] from h2]
    cases hu : P.underlying t with
    | none => simp [hu] at h
    | some d =>
      cases d <;> simp only [hu] at h <;> try cases h
      case slice e =>
        cases x <;> simp only at h <;> try cases h
        case nils =>
          rw [show v1 = .slice none 0 0 from h1]
          exact ⟨_, w, by simp [builtin, Builtin.len_, run_underlying hu, goInt], did_same hR rfl⟩
        case sl id off len cap =>
          obtain ⟨b, c, hr, rfl⟩ := h1
          exact ⟨_, w, by simp [builtin, Builtin.len_, run_underlying hu, goInt], did_same hR rfl⟩
        case gs id off el len =>
          obtain ⟨b, c, hr, _, rfl⟩ := h1
          exact ⟨_, w, by simp [builtin, Builtin.len_, run_underlying hu, goInt], did_same hR rfl⟩
      case array.refl n e =>
        refine ⟨.int .i64 (n : Int), w, by simp [builtin, Builtin.len_, run_underlying hu, goInt], ?_⟩
        exact did_same hR rfl
  · rename_i t tl d s
    obtain ⟨v1, r1, rfl, h1, h2⟩ := hv
    obtain ⟨v2, r2, rfl, h3, h4⟩ := h2
    rw [show r2 = [] from h4]
    obtain ⟨v, w', hrun, hd⟩ := evCopy_ok (P := P) (ty := ty) (ts := (t :: tl).toArray) hR (by simp) h h1 h3
    exact ⟨v, w', by simp [builtin, hrun], hd⟩
  · rename_i k x l
    obtain ⟨v1, r1, rfl, h1, h2⟩ := hv
    rw [show v1 = .int k x from h1]
    cases hfo : foldI minL k x l with
    | none => simp [hfo] at h
    | some lv =>
      simp [hfo] at h; subst h
      obtain ⟨v, hvr, hrun⟩ := foldI_ok (P := P) (g := Builtin.min2) (fun x y w => by simp [Builtin.min2, minL_eq]) hfo h2
      exact ⟨v, w, by simp [builtin, Builtin.min_, hrun], did_same hR hvr⟩
  · rename_i k x l
    obtain ⟨v1, r1, rfl, h1, h2⟩ := hv
    rw [show v1 = .int k x from h1]
    cases hfo : foldI maxL k x l with
    | none => simp [hfo] at h
    | some lv =>
      simp [hfo] at h; subst h
      obtain ⟨v, hvr, hrun⟩ := foldI_ok (P := P) (g := Builtin.max2) (fun x y w => by simp [Builtin.max2, maxL_eq]) hfo h2
      exact ⟨v, w, by simp [builtin, Builtin.max_, hrun], did_same hR hvr⟩
  · cases h

/-! ### Calls -/
/-- Every function, no bound on the depth; in a round, or not. -/
def Fw (ro : Option Nat) : Fence := { Fence.wide with round := ro }
/-- A call, or a round, comes to its end as is said. -/
def Runs (P : Program) : Tg → Ren → Array Value → World → (Ending → World → Prop) → Prop
  | .f g, _, args, w, Q => (∀ (args : Array Value) (w : World), (callFunc g args).run P w = .ok (.enter g args) w) ∧ ∀ n, CallsIn (Fw none) n P g args w Q
  | .r id, R, args, w, Q => ∀ b c, R id = some (b, c) → ∃ (fn : FuncId) (tmps : Array Value) (as body : Code), (Instr.yield b args).run P w = .ok (.round b fn tmps as body) w ∧ ∀ n, RoundIn (Fw none) n P b fn tmps as body w Q
def CallOK (P : Program) (call : CallT) : Prop :=
  ∀ (tg : Tg) (args : List LV) (H : Hp) (nx : Nat) (r : Res), call tg args H nx = some r → ∀ (R : Ren) (w : World) (vs : List Value), Rel R H w → VRL R args vs → Free R nx r.mx →
    Runs P tg R vs.toArray w fun e w' => ∃ v, e = .returned v ∧ Did R nx r.o w w' v
theorem res_some {x : Option Out} {r : Res} (h : res x = some r) : x = some r.o ∧ r.mx = r.o.nx := by
  cases x with
  | none => cases h
  | some o => simp only [res, Option.some.injEq] at h; subst h; exact ⟨rfl, rfl⟩
theorem wp_of_ran {ro : Option Nat} {n : Nat} {o : Oper} {r : Out} (hd : ∀ c, o.op ≠ .defer c) (h : Ran P R nx a o r w) {K : Act → World → Prop} {Q : Exit → Act → World → Prop} (hK : ∀ v w', Did R nx r w w' v → K (a.put o.dst v) w') : o.wpIn (Fw ro) n P a w K Q := by
  obtain ⟨v, w', hdid, hrun⟩ := h
  refine ⟨fun _ _ => trivial, ?_⟩
  rw [Oper.semAt_eq _ _ _ hd]
  rcases hrun with hrun | ⟨hrun, rfl⟩
  · rw [hrun]; exact hK v w' hdid
  · rw [hrun]; exact hK _ w' hdid
theorem evOp_ok {call : CallT} (hcall : CallOK P call) (hF : FR R N T a.tmps) (hR : Rel R H w) {ro : Option Nat} {n : Nat} {o : Oper} {r : Res} (hf : Free R nx r.mx) (h : evOp P call T H nx o.op = some r)
    {K : Act → World → Prop} {Q : Exit → Act → World → Prop} (hK : ∀ v w', Did R nx r.o w w' v → K (a.put o.dst v) w') : o.wpIn (Fw ro) n P a w K Q := by
  obtain ⟨dst, op, ty, pos, after, guard⟩ := o
  simp only at h hK
  cases op <;> (try simp only [evOp] at h)
  case load t x => obtain ⟨h1, h2⟩ := res_some h; exact wp_of_ran (by simp) (evLoad_ok hF hR rfl h1) hK
  case store t x y => obtain ⟨h1, h2⟩ := res_some h; exact wp_of_ran (by simp) (evStore_ok hF hR rfl h1) hK
  case alloc t => obtain ⟨h1, h2⟩ := res_some h; exact wp_of_ran (by simp) (evAlloc_ok hR (by rw [← h2]; exact hf) rfl h1) hK
  case box t x => obtain ⟨h1, h2⟩ := res_some h; exact wp_of_ran (by simp) (evBox_ok hF hR (by rw [← h2]; exact hf) rfl h1) hK
  case buildSlice t len ps => obtain ⟨h1, h2⟩ := res_some h; exact wp_of_ran (by simp) (evBuildSl_ok hF hR (by rw [← h2]; exact hf) rfl h1) hK
  case makeSlice t l c => obtain ⟨h1, h2⟩ := res_some h; exact wp_of_ran (by simp) (evMakeSl_ok hF hR (by rw [← h2]; exact hf) rfl h1) hK
  case call c =>
    unfold evCallee at h
    obtain ⟨callee, args, ts⟩ := c
    cases callee with
    | invoke x m => cases h
    | builtin b =>
      simp only at h
      cases ha : evOs T args.toList with
      | none => simp [ha] at h
      | some l =>
        simp only [ha] at h
        obtain ⟨h1, h2⟩ := res_some h
        obtain ⟨v, w', hrun, hd⟩ := evBuiltin_ok (P := P) hR (by rw [← h2]; exact hf) h1 (evOs_ok hF ha) ty (args.map fun | .const _ => true | _ => false)
        refine wp_of_ran (by simp) ⟨v, w', hd, .inl ?_⟩ hK
        have e1 : ts.toList.toArray = ts := by simp
        have e2 : (args.toList.map a.eval).toArray = args.map a.eval := by apply Array.toList_inj.1; simp
        rw [e1, e2] at hrun
        simp only [execOp, resolve, Sem.run_bind, Sem.run_pure, Result.andThen_ok, invoke]
        exact hrun
    | value f =>
      simp only at h
      cases ha : evOs T args.toList with
      | none => simp [ha] at h
      | some l =>
        cases hfv : evO T f with
        | none => simp [ha, hfv, callAt] at h
        | some vf =>
          have hvf := evO_ok hF hfv
          have hvl := evOs_ok hF ha
          have e2 : (args.toList.map a.eval).toArray = args.map a.eval := by apply Array.toList_inj.1; simp
          refine ⟨fun _ _ => trivial, ?_⟩
          rw [Oper.semAt_eq _ _ _ (by simp)]
          simp only [ha, hfv] at h
          cases vf <;> try (cases h; done)
          case fn g fi ca =>
            cases g <;> try (cases h; done)
            rename_i g
            simp only [callAt] at h
            obtain ⟨fi', ca', e, h1, h2⟩ := hvf
            have hv : VRL R (ap fi (ap l ca)) (fi'.toList ++ (args.toList.map a.eval ++ ca'.toList)) := by
              rw [ap_eq, ap_eq]; exact h1.append (hvl.append h2)
            obtain ⟨henter, hcalls⟩ := hcall (.f g) _ H nx r h R w _ hR hv hf
            have hargs : (fi' ++ args.map a.eval) ++ ca' = (fi'.toList ++ (args.toList.map a.eval ++ ca'.toList)).toArray := by
              apply Array.toList_inj.1; simp
            have hrun : (execOp a.eval ⟨dst, .call ⟨.value f, args, ts⟩, ty, pos, after, guard⟩).run P w = .ok (.enter g ((fi' ++ args.map a.eval) ++ ca')) w := by
              simp only [execOp, resolve, e, Deferred.ofValue, Sem.run_bind, Sem.run_pure, Result.andThen_ok, invoke]
              exact henter _ _
            rw [hrun, hargs]
            refine ⟨(fun h => by cases h), ?_⟩
            refine CallsIn.mono (show CallsIn (Fw ro) (n - 1) P g _ w _ from hcalls (n - 1)) ?_
            rintro e w' ⟨v, rfl, hd⟩
            exact hK v w' hd
          case yld id =>
            simp only [callAt] at h
            obtain ⟨b, c, hr, e⟩ := hvf
            obtain ⟨fn, tmps, as, body, hy, hround⟩ := hcall (.r id) _ H nx r h R w _ hR hvl hf b c hr
            have hrun : (execOp a.eval ⟨dst, .call ⟨.value f, args, ts⟩, ty, pos, after, guard⟩).run P w = .ok (.round b fn tmps as body) w := by
              simp only [execOp, resolve, e, Deferred.ofValue, Sem.run_bind, Sem.run_pure, Result.andThen_ok, invoke]
              rw [e2] at hy
              rw [show (#[] : Array Value) ++ args.map a.eval = args.map a.eval by simp]
              exact hy
            rw [hrun]
            refine ⟨(fun h => by cases h), ?_⟩
            refine RoundIn.mono (show RoundIn (Fw ro) (n - 1) P b fn tmps as body w _ from hround (n - 1)) ?_
            rintro e w' ⟨v, rfl, hd⟩
            exact hK v w' hd
  case defer c => exact absurd (show (none : Option Res) = some r from h) (by simp)
  all_goals (obtain ⟨h1, h2⟩ := res_some h; exact wp_of_ran (by simp) (evPureO_ok (o := ⟨dst, _, ty, pos, after, guard⟩) hF hR h1) hK)
end Go.Rx
