/-
  What the run of closed code says of the machine: every operation that does not look at memory, in one theorem. No program.
-/
import Derived.Test.YtohpjhplofimjaaZg
set_option linter.unusedSimpArgs false
set_option linter.unusedVariables false
set_option linter.unusedSectionVars false
namespace Go.Rx
open Go
variable {P : Program} {R : Ren} {N : Nat} {T : Tr LV} {a : Act}

/-- The operation yields a value that the run's stands for, in every world, and leaves the world. -/
def Val (P : Program) (R : Ren) (a : Act) (o : Oper) (lv : LV) : Prop := ∃ v, VR R lv v ∧ ∀ w, (execOp a.eval o).run P w = .ok (.value v) w
theorem val_of {o : Oper} {lv : LV} {v : Value} {s : Sem Value} (hv : VR R lv v) (hs : ∀ w, s.run P w = .ok v w) (he : execOp a.eval o = (do pure (.value (← s)))) : Val P R a o lv :=
  ⟨v, hv, fun w => by rw [he]; simp [hs w]⟩
theorem fieldOf_ok {t : TypeId} {k : Nat} {f : Field} (h : fieldOf P t k = some f) : ∃ fs, P.underlying t = some (.struct fs) ∧ fs[k]? = some f := by
  unfold fieldOf at h
  cases hu : P.underlying t with
  | none => simp [hu] at h
  | some d => cases d <;> simp [hu] at h; exact ⟨_, rfl, h⟩
theorem addr_ok {id off : Nat} {i z : Option Nat} {lv : LV} (h : addr id off i z = some lv) : ∃ n m, i = some n ∧ z = some m ∧ lv = .p id (off + n * m) := by
  unfold addr at h
  cases i <;> cases z <;> simp [nN_eq] at h
  exact ⟨_, _, rfl, rfl, h.symm⟩
theorem evPure_ok (hF : FR R N T a.tmps) (o : Oper) {lv : LV} (h : evPure P T o.op = some lv) : Val P R a o lv := by
  obtain ⟨dst, op, ty, pos, after, guard⟩ := o
  simp only at h
  cases op <;> simp only [evPure] at h <;> try (exact absurd h (by simp))
  case move x => exact ⟨a.eval x, evO_ok hF h, fun w => rfl⟩
  case assign x => exact ⟨a.eval x, evO_ok hF h, fun w => rfl⟩
  case pick c x y =>
    unfold evPick at h
    cases hc : evO T c with
    | none => simp [hc] at h
    | some v =>
      have hv := evO_ok hF hc
      cases v <;> simp [hc] at h
      rename_i b
      have hb : a.eval c = .bool b := hv
      cases b
      · exact ⟨a.eval y, evO_ok hF h, fun w => by simp [execOp, hb, asBool]⟩
      · exact ⟨a.eval x, evO_ok hF h, fun w => by simp [execOp, hb, asBool]⟩
  case build t ps =>
    unfold evBuild at h
    cases hz : zeroOf P t with
    | none => simp [hz] at h
    | some z =>
      cases hp : parts T ps.toList with
      | none => simp [hz, hp] at h
      | some l =>
        simp only [hz, hp] at h
        cases hb : buildAt P t z.cells l with
        | none => simp [hb] at h
        | some cs =>
          simp [hb] at h; subst h
          obtain ⟨zv, hzv, hzr⟩ := run_zeroOf hz (R := R)
          obtain ⟨v, hv, hr⟩ := buildAt_ok hb hzv.cells hzr (l' := ps.map fun (i, x) => (i, a.eval x)) (by simpa using parts_ok hF hp)
          exact val_of hv hr rfl
  case nilCheck x =>
    unfold evNil at h
    cases hx : evO T x with
    | none => simp [hx] at h
    | some v =>
      have hv := evO_ok hF hx
      cases v <;> simp [hx] at h
      case p id off => subst h; obtain ⟨b, c, hr, e⟩ := hv; exact ⟨_, ⟨b, c, hr, rfl⟩, fun w => by simp [execOp, e]⟩
      case yld id => subst h; obtain ⟨b, c, hr, e⟩ := hv; exact ⟨_, ⟨b, c, hr, rfl⟩, fun w => by simp [execOp, e]⟩
      case fn f x1 x2 =>
        cases f <;> simp at h
        subst h; obtain ⟨y1, y2, e, h1, h2⟩ := hv; exact ⟨_, ⟨y1, y2, rfl, h1, h2⟩, fun w => by simp [execOp, e]⟩
  case binOp op t x y yt =>
    unfold evBinO at h
    cases hx : evO T x with
    | none => simp [hx] at h
    | some vx =>
      cases hy : evO T y with
      | none => simp [hx, hy] at h
      | some vy =>
        simp only [hx, hy] at h
        obtain ⟨v, hv, hr⟩ := evBin_ok h (evO_ok hF hx) (evO_ok hF hy)
        exact val_of hv hr rfl
  case unOp op t x =>
    unfold evUn at h
    cases hx : evO T x with
    | none => simp [hx] at h
    | some vx =>
      simp only [hx] at h
      cases ht : toV vx with
      | none => simp [ht] at h
      | some u =>
        simp only [ht] at h
        cases hs : ofSem P (Op.unary op u) with
        | none => simp [hs] at h
        | some v =>
          simp only [hs] at h
          obtain e := toV_ok ht (evO_ok hF hx)
          exact val_of (ofV_ok h) (ofSem_ok hs) (by simp only [execOp, e])
  case convert s d x =>
    unfold evConv at h
    cases hx : evO T x with
    | none => simp [hx] at h
    | some vx =>
      simp only [hx] at h
      cases ht : toV vx with
      | none => simp [ht] at h
      | some u =>
        simp only [ht] at h
        cases hs : ofSem P (Go.convert s d u) with
        | none => simp [hs] at h
        | some v =>
          simp only [hs] at h
          obtain e := toV_ok ht (evO_ok hF hx)
          exact val_of (ofV_ok h) (ofSem_ok hs) (by simp only [execOp, e])
  case makeInterface t x =>
    unfold evMkIf at h
    cases hu : P.underlying t with
    | none => simp [hu] at h
    | some d =>
      cases hx : evO T x with
      | none => cases d <;> simp [hu, hx] at h
      | some vx =>
        have hv := evO_ok hF hx
        have key : lv = .ifc t vx ∧ (Instr.makeInterface t (a.eval x)).run P = fun w => .ok (.iface t (a.eval x)) w := by
          cases d <;> simp [hu, hx] at h <;> refine ⟨h.symm, funext fun w => ?_⟩ <;> simp [Instr.makeInterface, run_underlying hu]
        obtain ⟨rfl, hk⟩ := key
        exact val_of ⟨_, rfl, hv⟩ (fun w => by rw [hk]) rfl
  case makeFunc f x c =>
    cases f <;> simp only at h <;> try (exact absurd h (by simp))
    unfold evMkFn at h
    rename_i g
    cases hx : evOs T x.toList with
    | none => simp [hx] at h
    | some vx =>
      cases hc : evOs T c.toList with
      | none => simp [hx, hc] at h
      | some vc =>
        simp [hx, hc] at h; subst h
        exact ⟨_, ⟨x.map a.eval, c.map a.eval, rfl, by simpa using evOs_ok hF hx, by simpa using evOs_ok hF hc⟩, fun w => by simp [execOp, Instr.makeFunc]⟩
  case slice t x lo hi mx =>
    unfold evSliceO at h
    cases hx : evO T x with
    | none => simp [hx] at h
    | some vx =>
      simp only [hx] at h
      obtain ⟨v, hv, hr⟩ := evSlice_ok hF h (evO_ok hF hx)
      exact val_of hv hr rfl
  case fieldAddr t x f =>
    unfold evFAddr at h
    cases hx : evO T x with
    | none => simp [hx] at h
    | some vx =>
      have hv := evO_ok hF hx
      cases vx <;> simp [hx] at h
      rename_i id off
      cases hf : fieldOf P t f with
      | none => simp [hf] at h
      | some fd =>
        simp only [hf] at h
        cases hs : szOf P fd.type with
        | none => simp [hs] at h
        | some n =>
          cases n with
          | zero => simp [hs] at h
          | succ n =>
            simp [hs, nN_eq] at h; subst h
            obtain ⟨fs, hu, hg⟩ := fieldOf_ok hf
            obtain ⟨b, c, hr, e⟩ := hv
            exact val_of (s := Instr.fieldAt t (a.eval x) f) ⟨b, c, hr, rfl⟩ (fun w => by simp [Instr.fieldAt, run_underlying hu, hg, e, Instr.sureAddr, fieldPlace, run_sizeOf' hs, add_eq]) rfl
  case field t x f =>
    unfold evField at h
    cases hx : evO T x with
    | none => simp [hx] at h
    | some vx =>
      have hv := evO_ok hF hx
      cases vx <;> simp [hx] at h
      rename_i cs
      cases hf : fieldOf P t f with
      | none => simp [hf] at h
      | some fd =>
        simp only [hf] at h
        obtain ⟨fs, hu, hg⟩ := fieldOf_ok hf
        obtain ⟨vs, e, hl⟩ := hv
        obtain ⟨v, hv, hr⟩ := run_prt h hl
        exact val_of (s := Instr.field t (a.eval x) f) hv (fun w => by simp [Instr.field, run_underlying hu, hg, e, asAgg, hr]) rfl
  case indexAddr t x ix =>
    unfold evIAddr at h
    cases hx : evO T x with
    | none => simp [hx] at h
    | some vx =>
      cases hi : evO T ix with
      | none => cases vx <;> simp [hx, hi] at h
      | some vi =>
        have hv := evO_ok hF hx
        have hvi := evO_ok hF hi
        cases vx <;> simp [hx, hi] at h
        case p id off =>
          cases hu : P.underlying t with
          | none => simp [hu] at h
          | some d =>
            cases d <;> simp [hu] at h
            obtain ⟨n, z, h1, h2, rfl⟩ := addr_ok h
            obtain ⟨k, ei, hlt⟩ := idx_ok h1 hvi
            obtain ⟨b, c, hr, e⟩ := hv
            have h0 : (0 : Int) ≤ (n : Int) := by omega
            exact val_of (s := Instr.indexAt t (a.eval x) (a.eval ix)) ⟨b, c, hr, rfl⟩ (fun w => by simp [Instr.indexAt, run_underlying hu, e, ei, asIntOf, Instr.sureAddr, hlt, run_sizeOf' h2, add_eq]) rfl
        case sl id off len cap =>
          cases hu : P.underlying t with
          | none => simp [hu] at h
          | some d =>
            cases d <;> simp [hu] at h
            obtain ⟨n, z, h1, h2, rfl⟩ := addr_ok h
            obtain ⟨k, ei, hlt⟩ := idx_ok h1 hvi
            obtain ⟨b, c, hr, e⟩ := hv
            exact val_of (s := Instr.indexAt t (a.eval x) (a.eval ix)) ⟨b, c, hr, rfl⟩ (fun w => by simp [Instr.indexAt, run_underlying hu, e, ei, asIntOf, hlt, run_sizeOf' h2, add_eq]) rfl
        case gs id off el len =>
          cases hu : P.underlying t with
          | none => simp [hu] at h
          | some d =>
            cases d <;> simp [hu] at h
            obtain ⟨n, z, h1, h2, rfl⟩ := addr_ok h
            obtain ⟨k, ei, hlt⟩ := idx_ok h1 hvi
            obtain ⟨b, c, hr, _, e⟩ := hv
            exact val_of (s := Instr.indexAt t (a.eval x) (a.eval ix)) ⟨b, c, hr, rfl⟩ (fun w => by simp [Instr.indexAt, run_underlying hu, e, ei, asIntOf, hlt, run_sizeOf' h2, add_eq]) rfl
  case index t x ix =>
    unfold evIndex at h
    cases hu : P.underlying t with
    | none => simp [hu] at h
    | some d =>
      cases d <;> simp only [hu] at h <;> try cases h
      case string =>
        unfold evIdxS at h
        cases hx : evO T x with
        | none => simp [hx] at h
        | some vx =>
          cases hi : evO T ix with
          | none => cases vx <;> simp [hx, hi] at h
          | some vi =>
            have hv := evO_ok hF hx
            have hvi := evO_ok hF hi
            cases vx <;> simp only [hx, hi] at h <;> try cases h
            rename_i s
            cases vi <;> try cases h
            rename_i k m
            cases m with
            | negSucc m => cases h
            | ofNat m =>
            simp only at h
            cases hb : s[m]? with
            | none => simp [hb] at h
            | some b =>
              simp [hb, nN_eq] at h; subst h
              have e : a.eval x = .string s := hv
              have ei : a.eval ix = .int k (m : Int) := hvi
              exact val_of (s := Instr.index t (a.eval x) (a.eval ix)) (v := .int .u8 (b.toNat : Int)) rfl (fun w => by simp [Instr.index, run_underlying hu, e, ei, asIntOf, hb]) rfl
      case array n e =>
        unfold evIdxA at h
        cases hx : evO T x with
        | none => simp [hx] at h
        | some vx =>
          cases hi : evO T ix with
          | none => cases vx <;> simp [hx, hi] at h
          | some vi =>
            have hv := evO_ok hF hx
            have hvi := evO_ok hF hi
            cases vx <;> simp only [hx, hi] at h <;> try cases h
            rename_i cs
            cases h1 : idx vi n with
            | none => simp [h1] at h
            | some i =>
              cases h2 : szOf P e with
              | none => simp [h1, h2] at h
              | some z =>
                simp only [h1, h2] at h
                obtain ⟨vs, e1, hl⟩ := hv
                obtain ⟨k, ei, hlt⟩ := idx_ok h1 hvi
                obtain ⟨v, hv, hr⟩ := run_prt h hl
                exact val_of (s := Instr.index t (a.eval x) (a.eval ix)) hv (fun w => by simp [Instr.index, run_underlying hu, e1, ei, asIntOf, hlt, run_sizeOf' h2, hr]) rfl
  case extract x k =>
    unfold evExtract at h
    cases hx : evO T x with
    | none => simp [hx] at h
    | some vx =>
      have hv := evO_ok hF hx
      cases vx <;> simp [hx, at_eq] at h
      rename_i l
      obtain ⟨vs, e, hl⟩ := hv
      obtain ⟨v, hg, hr⟩ := hl.get h
      simp at hg
      exact val_of (s := Instr.extract (a.eval x) k) hr (fun w => by simp [Instr.extract, e, hg]) rfl
end Go.Rx
