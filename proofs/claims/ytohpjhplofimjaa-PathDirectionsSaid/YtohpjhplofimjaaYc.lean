/-
  A symbolic run: operations that do not look at memory. No program.
-/
import Derived.Test.YtohpjhplofimjaaYb
set_option linter.unusedSimpArgs false
set_option linter.unusedVariables false
set_option linter.unusedSectionVars false
namespace Go.Rx
open Go
variable {fs : Fs} {ov : Bool} {ν : Nm} {P : Program} {T : Al (SV (stdA fs ov))} {L : Tr LV}

theorem opt_ok {x : Option (SV (stdA fs ov))} {why : String} {K : SV (stdA fs ov) → Prop} (h : opt x why K) : ∃ v, x = some v ∧ K v := by
  cases x with
  | none => exact h.elim
  | some v => exact ⟨v, rfl, h⟩

/-! ### Constants, operands -/
theorem sC_ok : ∀ {v : Value} {x : SV (stdA fs ov)}, sC v = some x → ∃ lv, ofC v = some lv ∧ VS ν x lv
  | .bool b, x, h => by simp [sC] at h; subst h; exact ⟨_, rfl, rfl⟩
  | .int k n, x, h => by simp [sC] at h; subst h; exact ⟨.i k n, by simp [ofC, nI_eq], rfl⟩
  | .string s, x, h => by simp [sC] at h; subst h; exact ⟨_, rfl, rfl⟩
  | .pointer none, x, h => by simp [sC] at h; subst h; exact ⟨_, rfl, rfl⟩
  | .slice none 0 0, x, h => by simp [sC] at h; subst h; exact ⟨_, rfl, rfl⟩
  | .nilFunc, x, h => by simp [sC] at h; subst h; exact ⟨_, rfl, rfl⟩
  | .nilIface, x, h => by simp [sC] at h; subst h; exact ⟨_, rfl, rfl⟩
  | .pointer (some _), x, h => by simp [sC] at h
  | .slice (some _) _ _, x, h => by simp [sC] at h
  | .slice none (_ + 1) _, x, h => by simp [sC] at h
  | .slice none 0 (_ + 1), x, h => by simp [sC] at h
  | .map _, x, h => by simp [sC] at h
  | .float _ _, x, h => by simp [sC] at h
  | .complex _ _ _, x, h => by simp [sC] at h
  | .chan _, x, h => by simp [sC] at h
  | .func _ _ _, x, h => by simp [sC] at h
  | .iface _ _, x, h => by simp [sC] at h
  | .agg _, x, h => by simp [sC] at h
  | .tuple _, x, h => by simp [sC] at h
theorem sL_ok : ∀ {vs : List Value} {l : List (SV (stdA fs ov))}, sL vs = some l → ∃ ls, ofL vs = some ls ∧ VSL ν l ls
  | [], l, h => by simp [sL] at h; subst h; exact ⟨[], rfl, rfl⟩
  | v :: r, l, h => by
    simp only [sL] at h
    cases hx : sC (A := stdA fs ov) v with
    | none => simp [hx] at h
    | some x =>
      cases hr : sL (A := stdA fs ov) r with
      | none => simp [hx, hr] at h
      | some m =>
        simp [hx, hr] at h; subst h
        obtain ⟨lx, h1, h2⟩ := sC_ok (ν := ν) hx
        obtain ⟨ls, h3, h4⟩ := sL_ok hr
        exact ⟨lx :: ls, by simp [ofL, h1, h3], VSL.cons h2 h4⟩
theorem sV_ok {v : Value} {x : SV (stdA fs ov)} (h : sV v = some x) : ∃ lv, ofV v = some lv ∧ VS ν x lv := by
  cases v with
  | agg a =>
    simp only [sV] at h
    cases hl : sL (A := stdA fs ov) a.toList with
    | none => simp [hl] at h
    | some l =>
      simp [hl] at h; subst h
      obtain ⟨ls, h1, h2⟩ := sL_ok (ν := ν) hl
      exact ⟨.agg ls, by simp [ofV, h1], ls, rfl, h2⟩
  | tuple a =>
    simp only [sV] at h
    cases hl : sL (A := stdA fs ov) a.toList with
    | none => simp [hl] at h
    | some l =>
      simp [hl] at h; subst h
      obtain ⟨ls, h1, h2⟩ := sL_ok (ν := ν) hl
      exact ⟨.tup ls, by simp [ofV, h1], ls, rfl, h2⟩
  | _ => simp only [sV] at h; exact sC_ok h
theorem sO_ok (hF : FS ν T L) {x : Operand} {v : SV (stdA fs ov)} (h : sO T x = some v) : ∃ lv, evO L x = some lv ∧ VS ν v lv := by
  cases x with
  | tmp t => exact hF.at_ t v h
  | const v => exact sV_ok h
  | global g => cases h
  | func f => simp [sO] at h; subst h; exact ⟨_, rfl, [], [], rfl, rfl, rfl⟩
theorem sOs_ok (hF : FS ν T L) : ∀ {l : List Operand} {r : List (SV (stdA fs ov))}, sOs T l = some r → ∃ rs, evOs L l = some rs ∧ VSL ν r rs
  | [], r, h => by simp [sOs] at h; subst h; exact ⟨[], rfl, rfl⟩
  | x :: l, r, h => by
    simp only [sOs] at h
    cases hx : sO T x with
    | none => simp [hx] at h
    | some v =>
      cases hr : sOs T l with
      | none => simp [hx, hr] at h
      | some m =>
        simp [hx, hr] at h; subst h
        obtain ⟨lx, h1, h2⟩ := sO_ok hF hx
        obtain ⟨ls, h3, h4⟩ := sOs_ok hF hr
        exact ⟨lx :: ls, by simp [evOs, h1, h3], VSL.cons h2 h4⟩
def PS (ν : Nm) : List (Nat × SV (stdA fs ov)) → List (Nat × LV) → Prop
  | [], vs => vs = []
  | (i, x) :: l, vs => ∃ y r, vs = (i, y) :: r ∧ VS ν x y ∧ PS ν l r
theorem sPartsO_ok (hF : FS ν T L) : ∀ {l : List (Nat × Operand)} {r : List (Nat × SV (stdA fs ov))}, sPartsO T l = some r → ∃ rs, parts L l = some rs ∧ PS ν r rs
  | [], r, h => by simp [sPartsO] at h; subst h; exact ⟨[], rfl, rfl⟩
  | (i, x) :: l, r, h => by
    simp only [sPartsO] at h
    cases hx : sO T x with
    | none => simp [hx] at h
    | some v =>
      cases hr : sPartsO T l with
      | none => simp [hx, hr] at h
      | some m =>
        simp [hx, hr] at h; subst h
        obtain ⟨lx, h1, h2⟩ := sO_ok hF hx
        obtain ⟨ls, h3, h4⟩ := sPartsO_ok hF hr
        exact ⟨(i, lx) :: ls, by simp [parts, h1, h3], lx, ls, rfl, h2, h4⟩
theorem sZero_ok {t : TypeId} {z : SV (stdA fs ov)} (h : sZero P t = some z) : ∃ lz, zeroOf P t = some lz ∧ VS ν z lz := by
  unfold sZero at h
  unfold zeroOf
  cases hi : P.info? t with
  | none => simp [hi] at h
  | some i =>
    cases hz : i.zero with
    | none => simp [hi, hz] at h
    | some v => simp [hi, hz] at h ⊢; exact sV_ok h
theorem sPrt_ok {t : TypeId} {cs : List (SV (stdA fs ov))} {ls : List LV} {off : Nat} {v : SV (stdA fs ov)} (h : sPrt P t cs off = some v) (hv : VSL ν cs ls) : ∃ lv, prt P t ls off = some lv ∧ VS ν v lv := by
  unfold sPrt at h
  unfold prt
  cases ha : isAg P t with
  | none => simp [ha] at h
  | some b =>
    cases b with
    | false =>
      simp [ha, at_eq] at h ⊢
      exact hv.get h
    | true =>
      cases hs : szOf P t with
      | none => simp [ha, hs] at h
      | some n =>
        cases hk : gtk n (cs.drop off) with
        | none => simp [ha, hs, hk] at h
        | some r =>
          simp [ha, hs, hk] at h; subst h
          obtain ⟨rs, h1, h2⟩ := VSL.tk hk (hv.drop off)
          simp only [dp_eq, h1]
          exact ⟨_, rfl, rs, rfl, h2⟩
theorem sFill_ok {place : Nat → Option (Nat × Nat)} : ∀ {l : List (Nat × SV (stdA fs ov))} {ls : List (Nat × LV)} {cs r : List (SV (stdA fs ov))} {lcs : List LV}, sFill place cs l = some r → PS ν l ls → VSL ν cs lcs → ∃ lr, fill place lcs ls = some lr ∧ VSL ν r lr
  | [], ls, cs, r, lcs, h, hp, hc => by simp [sFill] at h; subst h; rw [hp]; exact ⟨lcs, by simp [fill], hc⟩
  | (i, v) :: l, ls, cs, r, lcs, h, hp, hc => by
    obtain ⟨y, r', rfl, hv, hp'⟩ := hp
    simp only [sFill] at h
    cases hpl : place i with
    | none => simp [hpl] at h
    | some q =>
      obtain ⟨off, n⟩ := q
      simp only [hpl] at h
      have hcl := hv.cells
      cases hb : Nat.beq v.cells.length n
      · simp [hb] at h
      · simp only [hb, cond_true] at h
        cases hg : gpt off cs v.cells with
        | none => simp [hg] at h
        | some cs' =>
          simp only [hg] at h
          obtain ⟨rs, h1, h2⟩ := VSL.pt hg hc hcl
          obtain ⟨lr, h3, h4⟩ := sFill_ok h hp' h2
          refine ⟨lr, ?_, h4⟩
          simp only [fill, hpl, hcl.length, hb, cond_true, h1, h3]
theorem sBuildAt_ok {t : TypeId} {z : List (SV (stdA fs ov))} {lz : List LV} {l : List (Nat × SV (stdA fs ov))} {ls : List (Nat × LV)} {r : List (SV (stdA fs ov))} (h : sBuildAt P t z l = some r) (hz : VSL ν z lz) (hl : PS ν l ls) : ∃ lr, buildAt P t lz ls = some lr ∧ VSL ν r lr := by
  unfold sBuildAt at h
  unfold buildAt
  cases hu : P.underlying t with
  | none => simp [hu] at h
  | some d =>
    cases d <;> simp only [hu] at h ⊢ <;> try cases h
    case struct fl =>
      cases hp : places P fl.toList with
      | none => simp [hp] at h
      | some pl => simp only [hp] at h ⊢; exact sFill_ok h hl hz
    case array n e =>
      cases hs : szOf P e with
      | none => simp [hs] at h
      | some k => simp only [hs] at h ⊢; exact sFill_ok h hl hz

/-! ### Programs that read no memory -/
theorem ofSem_bind {α β : Type} : ∀ (s : Sem α) (f : α → Sem β), ofSem P (s >>= f) = match ofSem P s with | some a => ofSem P (f a) | none => none
  | .pure a, f => rfl
  | .program k, f => ofSem_bind (k P) f
  | .load .., f | .store .., f | .new .., f | .shape .., f | .freeze .., f | .frozen .., f | .getObj .., f | .setObj .., f | .choose .., f | .sys .., f | .mark .., f | .halt .., f => rfl
theorem ofSem_pure {α : Type} (a : α) : ofSem P (pure a : Sem α) = some a := rfl
theorem ofSem_under {t : TypeId} {d : TypeDesc} (h : P.underlying t = some d) : ofSem P (underlying t) = some d := by
  have : ofSem P (underlying t) = ofSem P (match P.underlying t with | some d => (pure d : Sem TypeDesc) | none => stuck "no such type") := rfl
  rw [this, h]; rfl
theorem ofSem_program : ofSem P program = some P := rfl
theorem ofSem_part {t : TypeId} {cs : Array Value} {off : Nat} {v : Value} (ha : isAg P t = some false) (h : cs[off]? = some v) : ofSem P (part t cs off) = some v := by
  unfold isAg at ha
  cases hu : P.underlying t with
  | none => simp [hu] at ha
  | some d =>
    have h1 : ofSem P (isAgg t) = some false := by
      unfold isAgg
      rw [ofSem_bind, ofSem_under hu]
      cases d <;> simp [hu] at ha <;> rfl
    unfold part
    rw [ofSem_bind, h1]
    simp only [Bool.false_eq_true, if_false, h]
    rfl
theorem equalIn_struct (d : Nat) (t : TypeId) (xs ys : Array Value) {fl : Array Field} (ht : P.underlying t = some (.struct fl)) (hp : P.stoodInHeld t = false) :
    ofSem P (Op.equalIn (d + 1) t (.agg xs) (.agg ys)) = ofSem P (Op.eqFields d xs ys fl.toList) := by
  simp only [Op.equalIn, ofSem_bind, ofSem_under ht, ofSem_program, hp, Bool.false_eq_true, if_false]
  rw [← Array.forIn_toList]
  generalize fl.toList = l
  clear ht
  induction l with
  | nil => simp [Op.eqFields, ofSem_bind, ofSem_pure]
  | cons f l ih =>
    simp only [List.forIn_cons, Op.eqFields]
    by_cases hn : f.name ≠ "_"
    · simp only [if_pos hn, ofSem_bind]
      generalize ofSem P (part f.type xs f.offset) = r1
      cases r1 with
      | none => rfl
      | some a =>
        simp only
        generalize ofSem P (part f.type ys f.offset) = r2
        cases r2 with
        | none => rfl
        | some b =>
          simp only
          generalize ofSem P (Op.equalIn d f.type a b) = r3
          cases r3 with
          | none => rfl
          | some r =>
            cases r
            · simp [ofSem_pure]
            · simp only [Bool.not_true, Bool.false_eq_true, if_false, ofSem_pure]
              exact ih
    · simp only [if_neg hn, ofSem_bind, ofSem_pure]
      exact ih
theorem eqAt_ok {t : TypeId} {x y : SV (stdA fs ov)} {lx ly : LV} {u : Bool} (h : eqAt P t x y = some u) (hx : VS ν x lx) (hy : VS ν y ly) :
    isAg P t = some false ∧ ∃ a b, toC lx = some a ∧ toC ly = some b ∧ ∀ d, ofSem P (Op.equalIn (d + 1) t a b) = some u := by
  unfold eqAt at h
  split at h
  · rename_i k0 k a k' b hu
    cases hk : decide (k = k')
    · simp [hk] at h
    · simp [hk] at h; subst h
      obtain rfl : k = k' := by simpa using hk
      obtain rfl := hx; obtain rfl := hy
      refine ⟨by simp [isAg, hu], .int k a, .int k b, rfl, rfl, fun d => ?_⟩
      simp only [Op.equalIn, ofSem_bind, ofSem_under hu, if_true]
      show some (a == b) = some (decide (a = b))
      rfl
  · rename_i a b hu
    simp at h; subst h
    obtain rfl := hx; obtain rfl := hy
    refine ⟨by simp [isAg, hu], .bool a, .bool b, rfl, rfl, fun d => ?_⟩
    simp only [Op.equalIn, ofSem_bind, ofSem_under hu]
    rfl
  · cases h
theorem eqFs_ok : ∀ {fl : List Field} {l r : List (SV (stdA fs ov))} {ll lr : List LV} {u : Bool} (o : Nat), eqFs P fl l r = some u → flatFs o fl = true → VSL ν l ll → VSL ν r lr →
    ∃ xs ys, toL ll = some xs ∧ toL lr = some ys ∧ ∀ (X Y : List Value), X.drop o = xs → Y.drop o = ys → ∀ d, ofSem P (Op.eqFields (d + 1) X.toArray Y.toArray fl) = some u
  | [], [], [], ll, lr, u, o, h, _, hl, hr => by
    simp [eqFs] at h; subst h; rw [hl, hr]
    exact ⟨[], [], rfl, rfl, fun X Y _ _ d => rfl⟩
  | f :: fl, x :: l, y :: r, ll, lr, u, o, h, hf, hl, hr => by
    simp only [eqFs] at h
    cases hx : eqAt P f.type x y with
    | none => simp [hx] at h
    | some u0 =>
      simp only [hx] at h
      obtain ⟨lx, ll', rfl, hx1, hl1⟩ := hl
      obtain ⟨ly, lr', rfl, hy1, hr1⟩ := hr
      obtain ⟨ha, a, b, h1, h2, h3⟩ := eqAt_ok hx hx1 hy1
      simp only [flatFs, Bool.and_eq_true, beq_iff] at hf
      obtain ⟨⟨ho, hn⟩, hf⟩ := hf
      have key : ∃ w, eqFs P fl l r = some w ∧ u = (u0 && w) := by
        cases fl with
        | nil =>
          cases l <;> cases r <;> simp at h
          exact ⟨true, rfl, by simp [h]⟩
        | cons g gs =>
          simp only at h
          cases hw : eqFs P (g :: gs) l r with
          | none => simp [hw] at h
          | some w => simp [hw] at h; exact ⟨w, rfl, h.symm⟩
      obtain ⟨w, hw, rfl⟩ := key
      obtain ⟨xs, ys, h4, h5, h6⟩ := eqFs_ok (o + 1) hw hf hl1 hr1
      refine ⟨a :: xs, b :: ys, by simp [toL, h1, h4], by simp [toL, h2, h5], fun X Y hX hY d => ?_⟩
      have gX : X[o]? = some a := by
        have := congrArg (·[0]?) hX; simpa using this
      have gY : Y[o]? = some b := by
        have := congrArg (·[0]?) hY; simpa using this
      have dX : X.drop (o + 1) = xs := by rw [← List.drop_drop, hX]; rfl
      have dY : Y.drop (o + 1) = ys := by rw [← List.drop_drop, hY]; rfl
      have hn' : f.name ≠ "_" := by simpa using hn
      simp only [Op.eqFields]
      rw [if_pos hn']
      simp only [ofSem_bind, ofSem_part ha (show X.toArray[f.offset]? = some a by rw [ho]; simpa using gX), ofSem_part ha (show Y.toArray[f.offset]? = some b by rw [ho]; simpa using gY), h3 d]
      cases u0
      · rfl
      · simpa using h6 X Y dX dY d
  | [], _ :: _, _, _, _, _, _, h, _, _, _ => by simp [eqFs] at h
  | [], [], _ :: _, _, _, _, _, h, _, _, _ => by simp [eqFs] at h
  | _ :: _, [], _, _, _, _, _, h, _, _, _ => by simp [eqFs] at h
  | _ :: _, _ :: _, [], _, _, _, _, h, _, _, _ => by simp [eqFs] at h
theorem eqAgg_ok {t : TypeId} {l r : List (SV (stdA fs ov))} {ll lr : List LV} {u : Bool} (h : eqAgg P t l r = some u) (hl : VSL ν l ll) (hr : VSL ν r lr) (op : BinOp) (xo yo : Operand) :
    ∃ xs ys, toL ll = some xs ∧ toL lr = some ys ∧ ofSem P (eqGuard op t xo yo (.agg xs.toArray) (.agg ys.toArray)) = some () ∧ ofSem P (Op.equal t (.agg xs.toArray) (.agg ys.toArray)) = some u := by
  unfold eqAgg at h
  cases hu : P.underlying t with
  | none => simp [hu] at h
  | some d =>
    cases d <;> simp only [hu] at h <;> try cases h
    case struct fl =>
      cases hc : (flatFs 0 fl.toList && !(P.stoodInHeld t) && !(P.eqGuardType P.depth t))
      · simp [hc] at h
      · simp only [hc, cond_true] at h
        simp only [Bool.and_eq_true, Bool.not_eq_true'] at hc
        obtain ⟨⟨h1, h2⟩, h3⟩ := hc
        obtain ⟨xs, ys, h4, h5, h6⟩ := eqFs_ok (P := P) 0 h h1 hl hr
        refine ⟨xs, ys, h4, h5, ?_, ?_⟩
        · cases op <;> simp [eqGuard, ofSem_bind, ofSem_program, ofSem_pure, h3]
        · show ofSem P (Op.equalIn (9999 + 1) t (.agg xs.toArray) (.agg ys.toArray)) = some u
          rw [equalIn_struct 9999 t _ _ hu h2]
          exact h6 xs ys rfl rfl 9998
end Go.Rx
