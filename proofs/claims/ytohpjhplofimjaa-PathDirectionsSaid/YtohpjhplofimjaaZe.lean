/-
  What the run of closed code says of the machine: operations that do not look at memory. No program.
-/
import Derived.Test.YtohpjhplofimjaaZd
import Derived.IntWalk
set_option linter.unusedSimpArgs false
set_option linter.unusedVariables false
set_option linter.unusedSectionVars false
namespace Go.Rx
open Go

structure FR (R : Ren) (N : Nat) (T : Tr LV) (tm : Array Value) : Prop where
  size : tm.size = N
  at_ : ∀ t lv, T.get t = some lv → VR R lv (tm.getD t undef)
variable {P : Program} {R : Ren} {N : Nat} {T : Tr LV} {a : Act}
theorem evO_ok (hF : FR R N T a.tmps) {x : Operand} {lv : LV} (h : evO T x = some lv) : VR R lv (a.eval x) := by
  cases x with
  | tmp t => exact hF.at_ t lv h
  | const v => exact ofV_ok h
  | global g => cases h
  | func f => simp [evO] at h; subst h; exact ⟨#[], #[], rfl, rfl, rfl⟩
theorem evOs_ok (hF : FR R N T a.tmps) : ∀ {l : List Operand} {r : List LV}, evOs T l = some r → VRL R r (l.map a.eval)
  | [], r, h => by simp [evOs] at h; subst h; rfl
  | x :: l, r, h => by
    simp only [evOs] at h
    cases hx : evO T x with
    | none => simp [hx] at h
    | some v =>
      cases hr : evOs T l with
      | none => simp [hx, hr] at h
      | some m => simp [hx, hr] at h; subst h; exact VRL.cons (evO_ok hF hx) (evOs_ok hF hr)
def PL (R : Ren) : List (Nat × LV) → List (Nat × Value) → Prop
  | [], vs => vs = []
  | (i, x) :: l, vs => ∃ y r, vs = (i, y) :: r ∧ VR R x y ∧ PL R l r
theorem parts_ok (hF : FR R N T a.tmps) : ∀ {l : List (Nat × Operand)} {r : List (Nat × LV)}, parts T l = some r → PL R r (l.map fun p => (p.1, a.eval p.2))
  | [], r, h => by simp [parts] at h; subst h; rfl
  | (i, x) :: l, r, h => by
    simp only [parts] at h
    cases hx : evO T x with
    | none => simp [hx] at h
    | some v =>
      cases hr : parts T l with
      | none => simp [hx, hr] at h
      | some m => simp [hx, hr] at h; subst h; exact ⟨_, _, rfl, evO_ok hF hx, parts_ok hF hr⟩

/-! ### Arithmetic, comparisons -/
theorem wrap_small {n : Int} (h1 : -9223372036854775808 ≤ n) (h2 : n < 9223372036854775808) : IntKind.i64.wrap n = n := IntWalk.i64_in _ (by omega)
theorem mkInt_eq (k : IntKind) (n : Int) : mkInt k n = .i k (k.wrap n) := by
  unfold mkInt
  cases k <;> simp only [nI_eq, nN_eq]
  cases n with
  | ofNat m =>
    show (bif Nat.blt m 9223372036854775808 then LV.i .i64 (.ofNat m) else LV.i .i64 (IntKind.i64.wrap (.ofNat m))) = _
    cases hb : Nat.blt m 9223372036854775808
    · rfl
    · have : m < 9223372036854775808 := by simpa using hb
      rw [wrap_small (n := Int.ofNat m) (by simp) (by simp; omega)]; rfl
  | negSucc m =>
    show (bif Nat.blt m 9223372036854775808 then LV.i .i64 (.negSucc m) else LV.i .i64 (IntKind.i64.wrap (.negSucc m))) = _
    cases hb : Nat.blt m 9223372036854775808
    · rfl
    · have : m < 9223372036854775808 := by simpa using hb
      rw [wrap_small (by omega) (by omega)]; rfl
theorem tf_eq (b : Bool) : tf b = .b b := by cases b <;> rfl
theorem evGen_ok {op : BinOp} {t : TypeId} {xo yo : Operand} {x y lv : LV} {vx vy : Value} (h : evGen P op t xo yo x y = some lv) (hx : VR R x vx) (hy : VR R y vy) :
    ∃ v, VR R lv v ∧ ∀ w, (do eqGuard op t xo yo vx vy; binOp op t vx vy : Sem Value).run P w = .ok v w := by
  unfold evGen at h
  cases h1 : toV x with
  | none => simp [h1] at h
  | some u1 =>
    cases h2 : toV y with
    | none => simp [h1, h2] at h
    | some u2 =>
      simp only [h1, h2] at h
      obtain rfl := toV_ok h1 hx
      obtain rfl := toV_ok h2 hy
      split at h
      · rename_i v hv
        exact ⟨v, ofV_ok h, ofSem_ok hv⟩
      · cases h
theorem guard_int (op : BinOp) (t : TypeId) (xo yo : Operand) (k k' : IntKind) (m n : Int) (w : World) : (eqGuard op t xo yo (.int k m) (.int k' n)).run P w = .ok () w := by
  cases op <;> simp [eqGuard]
theorem evInt_ok {op : BinOp} {t : TypeId} {xo yo : Operand} {k : IntKind} {m n : Int} {lv : LV} (h : evInt op k m n = some lv) :
    ∃ v, VR R lv v ∧ ∀ w, (do eqGuard op t xo yo (.int k m) (.int k n); binOp op t (.int k m) (.int k n) : Sem Value).run P w = .ok v w := by
  cases op <;> simp [evInt, mkInt_eq, tf_eq] at h <;> subst h <;> refine ⟨_, rfl, fun w => ?_⟩ <;>
    simp [guard_int, binOp, Op.intArith, Op.intCmp]
theorem isNo_ok {op : BinOp} {lv : LV} (h : isNo op = some lv) : (op = .eql ∧ lv = .b false) ∨ (op = .neq ∧ lv = .b true) := by
  cases op <;> simp [isNo] at h <;> subst h <;> simp
theorem noPtr_ok {op : BinOp} {t : TypeId} {lv : LV} (h : noPtr P op t = some lv) : ∃ e, P.underlying t = some (.pointer e) ∧ isNo op = some lv := by
  unfold noPtr at h
  cases hu : P.underlying t with
  | none => simp [hu] at h
  | some d => cases d <;> simp [hu] at h; exact ⟨_, rfl, h⟩
theorem noSl_ok {op : BinOp} {t : TypeId} {lv : LV} (h : noSl P op t = some lv) : ∃ e, P.underlying t = some (.slice e) ∧ isNo op = some lv := by
  unfold noSl at h
  cases hu : P.underlying t with
  | none => simp [hu] at h
  | some d => cases d <;> simp [hu] at h; exact ⟨_, rfl, h⟩
theorem equalIn_ptr1 (d : Nat) {t e : TypeId} (hu : P.underlying t = some (.pointer e)) (x : Addr) (w : World) : (Op.equalIn (d + 1) t (.pointer (some x)) (.pointer none)).run P w = .ok false w := by
  simp [Op.equalIn, run_underlying hu]
theorem equalIn_ptr2 (d : Nat) {t e : TypeId} (hu : P.underlying t = some (.pointer e)) (x : Addr) (w : World) : (Op.equalIn (d + 1) t (.pointer none) (.pointer (some x))).run P w = .ok false w := by
  simp [Op.equalIn, run_underlying hu]
theorem equalIn_sl1 (d : Nat) {t e : TypeId} (hu : P.underlying t = some (.slice e)) (x : Addr) (l c l' c' : Nat) (w : World) : (Op.equalIn (d + 1) t (.slice (some x) l c) (.slice none l' c')).run P w = .ok false w := by
  simp [Op.equalIn, run_underlying hu]
theorem evBin_ok {op : BinOp} {t : TypeId} {xo yo : Operand} {x y lv : LV} {vx vy : Value} (h : evBin P op t xo yo x y = some lv) (hx : VR R x vx) (hy : VR R y vy) :
    ∃ v, VR R lv v ∧ ∀ w, (do eqGuard op t xo yo vx vy; binOp op t vx vy : Sem Value).run P w = .ok v w := by
  unfold evBin at h
  split at h
  · rename_i k m k' n
    unfold evInts at h
    have hx' : vx = .int k m := hx
    have hy' : vy = .int k' n := hy
    split at h
    · rename_i hk
      have hk : k = k' := of_decide_eq_true hk
      subst hk
      split at h
      · rename_i v hv
        simp at h
        subst h
        rw [hx', hy']
        exact evInt_ok hv
      · exact evGen_ok h hx hy
    · exact evGen_ok h hx hy
  · obtain ⟨e, hu, hn⟩ := noPtr_ok h
    obtain ⟨b, c, hr, rfl⟩ := hx
    obtain rfl : vy = .pointer none := hy
    rcases isNo_ok hn with ⟨rfl, rfl⟩ | ⟨rfl, rfl⟩
    · exact ⟨_, rfl, fun w => by have : ∀ x, (Op.equalIn 10000 t (.pointer (some x)) (.pointer none)).run P w = .ok false w := fun x => equalIn_ptr1 (P := P) 9999 hu x w; simp only [binOp]; simp [eqGuard, Op.equal, Op.maxDepth, this]⟩
    · exact ⟨_, rfl, fun w => by have : ∀ x, (Op.equalIn 10000 t (.pointer (some x)) (.pointer none)).run P w = .ok false w := fun x => equalIn_ptr1 (P := P) 9999 hu x w; simp only [binOp]; simp [eqGuard, Op.equal, Op.maxDepth, this]⟩
  · obtain ⟨e, hu, hn⟩ := noPtr_ok h
    obtain ⟨b, c, hr, rfl⟩ := hy
    obtain rfl : vx = .pointer none := hx
    rcases isNo_ok hn with ⟨rfl, rfl⟩ | ⟨rfl, rfl⟩
    · exact ⟨_, rfl, fun w => by have : ∀ x, (Op.equalIn 10000 t (.pointer none) (.pointer (some x))).run P w = .ok false w := fun x => equalIn_ptr2 (P := P) 9999 hu x w; simp only [binOp]; simp [eqGuard, Op.equal, Op.maxDepth, this]⟩
    · exact ⟨_, rfl, fun w => by have : ∀ x, (Op.equalIn 10000 t (.pointer none) (.pointer (some x))).run P w = .ok false w := fun x => equalIn_ptr2 (P := P) 9999 hu x w; simp only [binOp]; simp [eqGuard, Op.equal, Op.maxDepth, this]⟩
  · obtain ⟨e, hu, hn⟩ := noSl_ok h
    obtain ⟨b, c, hr, rfl⟩ := hx
    obtain rfl : vy = .slice none 0 0 := hy
    rcases isNo_ok hn with ⟨rfl, rfl⟩ | ⟨rfl, rfl⟩
    · exact ⟨_, rfl, fun w => by have : ∀ x l c, (Op.equalIn 10000 t (.slice (some x) l c) (.slice none 0 0)).run P w = .ok false w := fun x l c => equalIn_sl1 (P := P) 9999 hu x l c 0 0 w; simp only [binOp]; simp [eqGuard, Op.equal, Op.maxDepth, this]⟩
    · exact ⟨_, rfl, fun w => by have : ∀ x l c, (Op.equalIn 10000 t (.slice (some x) l c) (.slice none 0 0)).run P w = .ok false w := fun x l c => equalIn_sl1 (P := P) 9999 hu x l c 0 0 w; simp only [binOp]; simp [eqGuard, Op.equal, Op.maxDepth, this]⟩
  · obtain ⟨e, hu, hn⟩ := noSl_ok h
    obtain ⟨b, c, hr, hle, rfl⟩ := hx
    obtain rfl : vy = .slice none 0 0 := hy
    rcases isNo_ok hn with ⟨rfl, rfl⟩ | ⟨rfl, rfl⟩
    · exact ⟨_, rfl, fun w => by have : ∀ x l c, (Op.equalIn 10000 t (.slice (some x) l c) (.slice none 0 0)).run P w = .ok false w := fun x l c => equalIn_sl1 (P := P) 9999 hu x l c 0 0 w; simp only [binOp]; simp [eqGuard, Op.equal, Op.maxDepth, this]⟩
    · exact ⟨_, rfl, fun w => by have : ∀ x l c, (Op.equalIn 10000 t (.slice (some x) l c) (.slice none 0 0)).run P w = .ok false w := fun x l c => equalIn_sl1 (P := P) 9999 hu x l c 0 0 w; simp only [binOp]; simp [eqGuard, Op.equal, Op.maxDepth, this]⟩
  · exact evGen_ok h hx hy
end Go.Rx
