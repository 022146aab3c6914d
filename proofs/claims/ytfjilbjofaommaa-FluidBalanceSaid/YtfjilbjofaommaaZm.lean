/-
  What the run of closed code says of the machine: values, lists, types, operations that do not look at memory. No program.
  What the run of closed code says of the machine: operations that do not look at memory. No program.
  What the run of closed code says of the machine: the rest of the operations that do not look at memory. No program.
  What the run of closed code says of the machine: every operation that does not look at memory. No program.
  What the run of closed code says of the machine: every operation that does not look at memory, in one theorem. No program.
  What the run of closed code says of the machine: memory. No program.
  What the run of closed code says of the machine: every operation but the calls of functions. No program.
  What the run of closed code says of the machine: stores, appends and the other builtins. No program.
  What the run of closed code says of the machine: append and the other builtins. No program.
  What the run of closed code says of the machine: every operation, calls too, where the calls' run is right. No program.
-/
import Derived.Test.YtfjilbjofaommaaZc
import Derived.Laws.StructEq
import Derived.Laws.AppendOwn
import Derived.WalkKit
import Derived.IntWalk
import Derived.Laws.CopyRow
import Derived.Maps.AppendAt
import Derived.OwnWalkIn
import Derived.Deep.AppendLies
import Derived.WalkLawsBesides
set_option linter.unusedSimpArgs false
set_option linter.unusedVariables false
set_option linter.unusedSectionVars false
namespace Go.Rx
open Go

/-! ### Values -/
theorem ofC_ok {R : Ren} : ∀ {v : Value} {lv : LV}, ofC v = some lv → VR R lv v
  | .bool x, lv, h => by simp [ofC] at h; subst h; rfl
  | .int k n, lv, h => by simp [ofC, nI_eq] at h; subst h; rfl
  | .string x, lv, h => by simp [ofC] at h; subst h; rfl
  | .pointer none, lv, h => by simp [ofC] at h; subst h; rfl
  | .slice none 0 0, lv, h => by simp [ofC] at h; subst h; rfl
  | .nilFunc, lv, h => by simp [ofC] at h; subst h; rfl
  | .map none, lv, h => by simp [ofC] at h; subst h; rfl
  | .nilIface, lv, h => by simp [ofC] at h; subst h; rfl
  | .pointer (some _), lv, h => by simp [ofC] at h
  | .slice (some _) _ _, lv, h => by simp [ofC] at h
  | .slice none (_ + 1) _, lv, h => by simp [ofC] at h
  | .slice none 0 (_ + 1), lv, h => by simp [ofC] at h
  | .map (some _), lv, h => by simp [ofC] at h
  | .float _ _, lv, h => by simp [ofC] at h
  | .complex _ _ _, lv, h => by simp [ofC] at h
  | .chan _, lv, h => by simp [ofC] at h
  | .func _ _ _, lv, h => by simp [ofC] at h
  | .iface _ _, lv, h => by simp [ofC] at h
  | .agg _, lv, h => by simp [ofC] at h
  | .tuple _, lv, h => by simp [ofC] at h
theorem ofL_ok {R : Ren} : ∀ {vs : List Value} {l : List LV}, ofL vs = some l → VRL R l vs
  | [], l, h => by simp [ofL] at h; subst h; rfl
  | v :: r, l, h => by
    simp only [ofL] at h
    cases hx : ofC v with
    | none => simp [hx] at h
    | some x =>
      cases hr : ofL r with
      | none => simp [hx, hr] at h
      | some m => simp [hx, hr] at h; subst h; exact VRL.cons (ofC_ok hx) (ofL_ok hr)
theorem ofV_ok {R : Ren} {v : Value} {lv : LV} (h : ofV v = some lv) : VR R lv v := by
  cases v with
  | agg a =>
    simp only [ofV] at h
    cases hl : ofL a.toList with
    | none => simp [hl] at h
    | some l => simp [hl] at h; subst h; exact ⟨a, rfl, ofL_ok hl⟩
  | tuple a =>
    simp only [ofV] at h
    cases hl : ofL a.toList with
    | none => simp [hl] at h
    | some l => simp [hl] at h; subst h; exact ⟨a, rfl, ofL_ok hl⟩
  | _ => exact ofC_ok h
theorem toC_ok {R : Ren} {lv : LV} {v v' : Value} (h : toC lv = some v') (hv : VR R lv v) : v = v' := by
  cases lv <;> simp [toC] at h <;> subst h <;> exact hv
theorem toL_ok {R : Ren} : ∀ {l : List LV} {vs vs' : List Value}, toL l = some vs' → VRL R l vs → vs = vs'
  | [], vs, vs', h, hv => by simp [toL] at h; subst h; exact hv
  | x :: l, vs, vs', h, hv => by
    obtain ⟨y, r, e, h1, h2⟩ := hv
    simp only [toL] at h
    cases hx : toC x with
    | none => simp [hx] at h
    | some u =>
      cases hr : toL l with
      | none => simp [hx, hr] at h
      | some m => simp [hx, hr] at h; subst h; rw [e, toC_ok hx h1, toL_ok hr h2]
theorem toV_ok {R : Ren} {lv : LV} {v v' : Value} (h : toV lv = some v') (hv : VR R lv v) : v = v' := by
  cases lv with
  | agg l =>
    obtain ⟨a, e, hl⟩ := hv
    simp only [toV] at h
    cases hr : toL l with
    | none => simp [hr] at h
    | some m => simp [hr] at h; subst h; rw [e, ← toL_ok hr hl]
  | tup l =>
    obtain ⟨a, e, hl⟩ := hv
    simp only [toV] at h
    cases hr : toL l with
    | none => simp [hr] at h
    | some m => simp [hr] at h; subst h; rw [e, ← toL_ok hr hl]
  | _ => simp only [toV] at h; exact toC_ok h hv
theorem ofSem_ok {α : Type} {P : Program} : ∀ {s : Sem α} {a : α}, ofSem P s = some a → ∀ w, s.run P w = .ok a w
  | .pure _, _, h, _ => by simp [ofSem] at h; subst h; rfl
  | .program k, _, h, w => by simp only [ofSem] at h; exact ofSem_ok (s := k P) h w
  | .load .., _, h, _ | .store .., _, h, _ | .new .., _, h, _ | .shape .., _, h, _ | .freeze .., _, h, _ | .frozen .., _, h, _ | .getObj .., _, h, _ | .setObj .., _, h, _
  | .choose .., _, h, _ | .sys .., _, h, _ | .mark .., _, h, _ | .halt .., _, h, _ => by simp [ofSem] at h

/-! ### Lists -/
theorem tk_ok : ∀ {n : Nat} {l r : List LV}, tk n l = some r → r = l.take n ∧ n ≤ l.length
  | 0, l, r, h => by simp [tk] at h; subst h; simp
  | n + 1, [], r, h => by simp [tk] at h
  | n + 1, x :: l, r, h => by
    simp only [tk] at h
    cases hr : tk n l with
    | none => simp [hr] at h
    | some m => simp [hr] at h; subst h; obtain ⟨e, hl⟩ := tk_ok hr; simp [e, hl]
theorem dp_eq : ∀ (n : Nat) (l : List LV), dp n l = l.drop n
  | 0, l => by simp [dp]
  | _ + 1, [] => by simp [dp]
  | n + 1, _ :: l => by simp [dp, dp_eq n l]
theorem ap_eq : ∀ (l m : List LV), ap l m = l ++ m
  | [], m => rfl
  | x :: l, m => by
    rw [ap, ap_eq l m, List.cons_append]
    generalize l ++ m = u
    cases u <;> rfl
theorem at_eq : ∀ (l : List LV) (k : Nat), at? l k = l[k]?
  | [], _ => by simp [at?]
  | _ :: _, 0 => by simp [at?]
  | _ :: l, k + 1 => by simp [at?, at_eq l k]
theorem pt_ok : ∀ {k : Nat} {l ys r : List LV}, pt k l ys = some r → r = l.take k ++ ys ++ l.drop (k + ys.length) ∧ k + ys.length ≤ l.length
  | 0, l, [], r, h => by simp [pt] at h; subst h; simp
  | 0, [], _ :: _, r, h => by simp [pt] at h
  | 0, _ :: l, y :: ys, r, h => by
    simp only [pt] at h
    cases hr : pt 0 l ys with
    | none => simp [hr] at h
    | some m => simp [hr] at h; subst h; obtain ⟨e, hl⟩ := pt_ok hr; simp at e hl; simp [e, hl]
  | k + 1, [], ys, r, h => by simp [pt] at h
  | k + 1, x :: l, ys, r, h => by
    simp only [pt] at h
    cases hr : pt k l ys with
    | none => simp [hr] at h
    | some m =>
      simp [hr] at h; subst h; obtain ⟨e, hl⟩ := pt_ok hr
      have : k + 1 + ys.length = k + ys.length + 1 := by omega
      simp [e, this]; omega
theorem VRL.pt {R : Ren} {k : Nat} {l ys r : List LV} {vs us : List Value} (h : pt k l ys = some r) (hv : VRL R l vs) (hu : VRL R ys us) :
    VRL R r (vs.take k ++ us ++ vs.drop (k + us.length)) ∧ k + us.length ≤ vs.length := by
  obtain ⟨e, hl⟩ := pt_ok h
  have h1 := hv.length
  have h2 := hu.length
  rw [e, h2]
  exact ⟨((hv.take k).append hu).append (hv.drop _), by omega⟩
theorem VR.cells {R : Ren} {lv : LV} {v : Value} (h : VR R lv v) : VRL R lv.cells v.cells.toList := by
  cases lv with
  | agg l => obtain ⟨a, rfl, hl⟩ := h; exact hl
  | tup l => obtain ⟨a, rfl, hl⟩ := h; exact VRL.cons ⟨a, rfl, hl⟩ VRL.nil
  | fn f a c => obtain ⟨a', c', rfl, h1, h2⟩ := h; exact VRL.cons ⟨a', c', rfl, h1, h2⟩ VRL.nil
  | p id off => obtain ⟨b, c, hr, rfl⟩ := h; exact VRL.cons ⟨b, c, hr, rfl⟩ VRL.nil
  | sl id off len cap => obtain ⟨b, c, hr, rfl⟩ := h; exact VRL.cons ⟨b, c, hr, rfl⟩ VRL.nil
  | gs id off el len => obtain ⟨b, c, hr, hle, rfl⟩ := h; exact VRL.cons ⟨b, c, hr, hle, rfl⟩ VRL.nil
  | yld id => obtain ⟨b, c, hr, rfl⟩ := h; exact VRL.cons ⟨b, c, hr, rfl⟩ VRL.nil
  | mp id => obtain ⟨b, c, hr, rfl⟩ := h; exact VRL.cons ⟨b, c, hr, rfl⟩ VRL.nil
  | ifc t x => obtain ⟨y, rfl, hy⟩ := h; exact VRL.cons ⟨y, rfl, hy⟩ VRL.nil
  | _ => subst h; exact VRL.cons rfl VRL.nil
theorem VR.one {R : Ren} {lv : LV} {v : Value} (h : VR R lv v) (h1 : lv.one = true) : v.oneCell' = true := by
  cases lv with
  | agg l => cases h1
  | tup l => cases h1
  | fn f a c => obtain ⟨a', c', rfl, _, _⟩ := h; rfl
  | p id off => obtain ⟨b, c, hr, rfl⟩ := h; rfl
  | sl id off len cap => obtain ⟨b, c, hr, rfl⟩ := h; rfl
  | gs id off el len => obtain ⟨b, c, hr, hle, rfl⟩ := h; rfl
  | yld id => obtain ⟨b, c, hr, rfl⟩ := h; rfl
  | mp id => obtain ⟨b, c, hr, rfl⟩ := h; rfl
  | ifc t x => obtain ⟨y, rfl, hy⟩ := h; rfl
  | _ => subst h; rfl
theorem VRL.one {R : Ren} : ∀ {l : List LV} {vs : List Value}, VRL R l vs → allOne l = true → ∀ u ∈ vs, u.oneCell' = true
  | [], vs, h, _, u, hu => by rw [h] at hu; cases hu
  | x :: l, vs, h, h1, u, hu => by
    obtain ⟨y, r, e, hx, hl⟩ := h
    have hb : x.one = true ∧ allOne l = true := by
      simp only [allOne] at h1
      cases hxo : x.one <;> simp [hxo] at h1
      exact ⟨rfl, h1⟩
    rw [e] at hu
    rcases List.mem_cons.1 hu with rfl | hu
    · exact hx.one hb.1
    · exact VRL.one hl hb.2 u hu

/-! ### Types -/
variable {P : Program}
theorem szOf_ok {t : TypeId} {n : Nat} (h : szOf P t = some n) : ∃ i, P.info? t = some i ∧ i.size = n := by
  unfold szOf at h
  cases hi : P.info? t with
  | none => simp [hi] at h
  | some i => simp [hi, nN_eq] at h; exact ⟨i, rfl, h⟩
theorem run_sizeOf' {t : TypeId} {n : Nat} (h : szOf P t = some n) (w : World) : (sizeOf t).run P w = .ok n w := by
  obtain ⟨i, hi, rfl⟩ := szOf_ok h
  simp [sizeOf, typeInfo, hi]
theorem run_isAg {t : TypeId} {b : Bool} (h : isAg P t = some b) (w : World) : (isAgg t).run P w = .ok b w := by
  unfold isAg at h
  cases hu : P.underlying t with
  | none => simp [hu] at h
  | some d => cases d <;> simp [hu] at h <;> subst h <;> simp [isAgg, run_underlying hu]
theorem zeroOf_ok {t : TypeId} {z : LV} (h : zeroOf P t = some z) : ∃ i v, P.info? t = some i ∧ i.zero = some v ∧ ofV v = some z := by
  unfold zeroOf at h
  cases hi : P.info? t with
  | none => simp [hi] at h
  | some i =>
    cases hz : i.zero with
    | none => simp [hi, hz] at h
    | some v => simp [hi, hz] at h; exact ⟨i, v, rfl, hz, h⟩
theorem run_zeroOf {t : TypeId} {z : LV} (h : zeroOf P t = some z) {R : Ren} : ∃ v, VR R z v ∧ ∀ w, (zeroValue t).run P w = .ok v w := by
  obtain ⟨i, v, hi, hz, hv⟩ := zeroOf_ok h
  exact ⟨v, ofV_ok hv, fun w => by simp [zeroValue, typeInfo, hi, hz]⟩
theorem run_prt {R : Ren} {t : TypeId} {cs : List LV} {off : Nat} {lv : LV} {vs : Array Value} (h : prt P t cs off = some lv) (hv : VRL R cs vs.toList) :
    ∃ v, VR R lv v ∧ ∀ w, (part t vs off).run P w = .ok v w := by
  unfold prt at h
  cases ha : isAg P t with
  | none => simp [ha] at h
  | some b =>
    cases b with
    | false =>
      simp [ha, at_eq] at h
      obtain ⟨v, hg, hr⟩ := hv.get h
      exact ⟨v, hr, fun w => by simp at hg; simp [part, run_isAg ha, hg]⟩
    | true =>
      cases hs : szOf P t with
      | none => simp [ha, hs] at h
      | some n =>
        cases hk : tk n (dp off cs) with
        | none => simp [ha, hs, hk] at h
        | some r =>
          simp [ha, hs, hk] at h
          subst h
          obtain ⟨rfl, hl⟩ := tk_ok hk
          refine ⟨.agg (vs.extract off (off + n)), ⟨_, rfl, ?_⟩, fun w => by simp [part, run_isAg ha, run_sizeOf' hs]⟩
          rw [dp_eq]
          have := (hv.drop off).take n
          simpa [Array.toList_extract, List.take_drop, Nat.add_comm] using this
end Go.Rx

set_option linter.unusedSimpArgs false
set_option linter.unusedVariables false
set_option linter.unusedSectionVars false
namespace Go.Rx
open Go

structure FR (R : Ren) (N : Nat) (T : Tr LV) (tm : Array Value) : Prop where
  size : tm.size = N
  at_ : ∀ t lv, T.get t = some lv → VR R lv (tm.getD t undef)
variable {P : Program} {R : Ren} {N : Nat} {T : Tr LV} {a : Act}
theorem evO_ok (hF : FR R N T a.tmps) {x : Operand} {lv : LV} (h : evO T x = some lv) : VR R lv (a.eval x) := by
  cases x with
  | tmp t => exact hF.at_ t lv h
  | const v => exact ofV_ok h
  | global g => cases h
  | func f => simp [evO] at h; subst h; exact ⟨#[], #[], rfl, rfl, rfl⟩
theorem evOs_ok (hF : FR R N T a.tmps) : ∀ {l : List Operand} {r : List LV}, evOs T l = some r → VRL R r (l.map a.eval)
  | [], r, h => by simp [evOs] at h; subst h; rfl
  | x :: l, r, h => by
    simp only [evOs] at h
    cases hx : evO T x with
    | none => simp [hx] at h
    | some v =>
      cases hr : evOs T l with
      | none => simp [hx, hr] at h
      | some m => simp [hx, hr] at h; subst h; exact VRL.cons (evO_ok hF hx) (evOs_ok hF hr)
def PL (R : Ren) : List (Nat × LV) → List (Nat × Value) → Prop
  | [], vs => vs = []
  | (i, x) :: l, vs => ∃ y r, vs = (i, y) :: r ∧ VR R x y ∧ PL R l r
theorem parts_ok (hF : FR R N T a.tmps) : ∀ {l : List (Nat × Operand)} {r : List (Nat × LV)}, parts T l = some r → PL R r (l.map fun p => (p.1, a.eval p.2))
  | [], r, h => by simp [parts] at h; subst h; rfl
  | (i, x) :: l, r, h => by
    simp only [parts] at h
    cases hx : evO T x with
    | none => simp [hx] at h
    | some v =>
      cases hr : parts T l with
      | none => simp [hx, hr] at h
      | some m => simp [hx, hr] at h; subst h; exact ⟨_, _, rfl, evO_ok hF hx, parts_ok hF hr⟩

/-! ### Arithmetic, comparisons -/
theorem wrap_small {n : Int} (h1 : -9223372036854775808 ≤ n) (h2 : n < 9223372036854775808) : IntKind.i64.wrap n = n := IntWalk.i64_in _ (by omega)
theorem mkInt_eq (k : IntKind) (n : Int) : mkInt k n = .i k (k.wrap n) := by
  unfold mkInt
  cases k <;> simp only [nI_eq, nN_eq]
  cases n with
  | ofNat m =>
    show (bif Nat.blt m 9223372036854775808 then LV.i .i64 (.ofNat m) else LV.i .i64 (IntKind.i64.wrap (.ofNat m))) = _
    cases hb : Nat.blt m 9223372036854775808
    · rfl
    · have : m < 9223372036854775808 := by simpa using hb
      rw [wrap_small (n := Int.ofNat m) (by simp) (by simp; omega)]; rfl
  | negSucc m =>
    show (bif Nat.blt m 9223372036854775808 then LV.i .i64 (.negSucc m) else LV.i .i64 (IntKind.i64.wrap (.negSucc m))) = _
    cases hb : Nat.blt m 9223372036854775808
    · rfl
    · have : m < 9223372036854775808 := by simpa using hb
      rw [wrap_small (by omega) (by omega)]; rfl
theorem tf_eq (b : Bool) : tf b = .b b := by cases b <;> rfl
theorem evGen_ok {op : BinOp} {t : TypeId} {xo yo : Operand} {x y lv : LV} {vx vy : Value} (h : evGen P op t xo yo x y = some lv) (hx : VR R x vx) (hy : VR R y vy) :
    ∃ v, VR R lv v ∧ ∀ w, (do eqGuard op t xo yo vx vy; binOp op t vx vy : Sem Value).run P w = .ok v w := by
  unfold evGen at h
  cases h1 : toV x with
  | none => simp [h1] at h
  | some u1 =>
    cases h2 : toV y with
    | none => simp [h1, h2] at h
    | some u2 =>
      simp only [h1, h2] at h
      obtain rfl := toV_ok h1 hx
      obtain rfl := toV_ok h2 hy
      split at h
      · rename_i v hv
        exact ⟨v, ofV_ok h, ofSem_ok hv⟩
      · cases h
theorem guard_int (op : BinOp) (t : TypeId) (xo yo : Operand) (k k' : IntKind) (m n : Int) (w : World) : (eqGuard op t xo yo (.int k m) (.int k' n)).run P w = .ok () w := by
  cases op <;> simp [eqGuard]
theorem evInt_ok {op : BinOp} {t : TypeId} {xo yo : Operand} {k : IntKind} {m n : Int} {lv : LV} (h : evInt op k m n = some lv) :
    ∃ v, VR R lv v ∧ ∀ w, (do eqGuard op t xo yo (.int k m) (.int k n); binOp op t (.int k m) (.int k n) : Sem Value).run P w = .ok v w := by
  cases op <;> simp [evInt, mkInt_eq, tf_eq] at h <;> subst h <;> refine ⟨_, rfl, fun w => ?_⟩ <;>
    simp [guard_int, binOp, Op.intArith, Op.intCmp]
theorem isNo_ok {op : BinOp} {lv : LV} (h : isNo op = some lv) : (op = .eql ∧ lv = .b false) ∨ (op = .neq ∧ lv = .b true) := by
  cases op <;> simp [isNo] at h <;> subst h <;> simp
theorem noPtr_ok {op : BinOp} {t : TypeId} {lv : LV} (h : noPtr P op t = some lv) : ∃ e, P.underlying t = some (.pointer e) ∧ isNo op = some lv := by
  unfold noPtr at h
  cases hu : P.underlying t with
  | none => simp [hu] at h
  | some d => cases d <;> simp [hu] at h; exact ⟨_, rfl, h⟩
theorem noSl_ok {op : BinOp} {t : TypeId} {lv : LV} (h : noSl P op t = some lv) : ∃ e, P.underlying t = some (.slice e) ∧ isNo op = some lv := by
  unfold noSl at h
  cases hu : P.underlying t with
  | none => simp [hu] at h
  | some d => cases d <;> simp [hu] at h; exact ⟨_, rfl, h⟩
theorem equalIn_ptr1 (d : Nat) {t e : TypeId} (hu : P.underlying t = some (.pointer e)) (x : Addr) (w : World) : (Op.equalIn (d + 1) t (.pointer (some x)) (.pointer none)).run P w = .ok false w := by
  simp [Op.equalIn, run_underlying hu]
theorem equalIn_ptr2 (d : Nat) {t e : TypeId} (hu : P.underlying t = some (.pointer e)) (x : Addr) (w : World) : (Op.equalIn (d + 1) t (.pointer none) (.pointer (some x))).run P w = .ok false w := by
  simp [Op.equalIn, run_underlying hu]
theorem equalIn_sl1 (d : Nat) {t e : TypeId} (hu : P.underlying t = some (.slice e)) (x : Addr) (l c l' c' : Nat) (w : World) : (Op.equalIn (d + 1) t (.slice (some x) l c) (.slice none l' c')).run P w = .ok false w := by
  simp [Op.equalIn, run_underlying hu]
theorem evBin_ok {op : BinOp} {t : TypeId} {xo yo : Operand} {x y lv : LV} {vx vy : Value} (h : evBin P op t xo yo x y = some lv) (hx : VR R x vx) (hy : VR R y vy) :
    ∃ v, VR R lv v ∧ ∀ w, (do eqGuard op t xo yo vx vy; binOp op t vx vy : Sem Value).run P w = .ok v w := by
  unfold evBin at h
  split at h
  · rename_i k m k' n
    unfold evInts at h
    have hx' : vx = .int k m := hx
    have hy' : vy = .int k' n := hy
    split at h
    · rename_i hk
      have hk : k = k' := of_decide_eq_true hk
      subst hk
      split at h
      · rename_i v hv
        simp at h
        subst h
        rw [hx', hy']
        exact evInt_ok hv
      · exact evGen_ok h hx hy
    · exact evGen_ok h hx hy
  · obtain ⟨e, hu, hn⟩ := noPtr_ok h
    obtain ⟨b, c, hr, rfl⟩ := hx
    obtain rfl : vy = .pointer none := hy
    rcases isNo_ok hn with ⟨rfl, rfl⟩ | ⟨rfl, rfl⟩
    · exact ⟨_, rfl, fun w => by have : ∀ x, (Op.equalIn 10000 t (.pointer (some x)) (.pointer none)).run P w = .ok false w := fun x => equalIn_ptr1 (P := P) 9999 hu x w; simp only [binOp]; simp [eqGuard, Op.equal, Op.maxDepth, this]⟩
    · exact ⟨_, rfl, fun w => by have : ∀ x, (Op.equalIn 10000 t (.pointer (some x)) (.pointer none)).run P w = .ok false w := fun x => equalIn_ptr1 (P := P) 9999 hu x w; simp only [binOp]; simp [eqGuard, Op.equal, Op.maxDepth, this]⟩
  · obtain ⟨e, hu, hn⟩ := noPtr_ok h
    obtain ⟨b, c, hr, rfl⟩ := hy
    obtain rfl : vx = .pointer none := hx
    rcases isNo_ok hn with ⟨rfl, rfl⟩ | ⟨rfl, rfl⟩
    · exact ⟨_, rfl, fun w => by have : ∀ x, (Op.equalIn 10000 t (.pointer none) (.pointer (some x))).run P w = .ok false w := fun x => equalIn_ptr2 (P := P) 9999 hu x w; simp only [binOp]; simp [eqGuard, Op.equal, Op.maxDepth, this]⟩
    · exact ⟨_, rfl, fun w => by have : ∀ x, (Op.equalIn 10000 t (.pointer none) (.pointer (some x))).run P w = .ok false w := fun x => equalIn_ptr2 (P := P) 9999 hu x w; simp only [binOp]; simp [eqGuard, Op.equal, Op.maxDepth, this]⟩
  · obtain ⟨e, hu, hn⟩ := noSl_ok h
    obtain ⟨b, c, hr, rfl⟩ := hx
    obtain rfl : vy = .slice none 0 0 := hy
    rcases isNo_ok hn with ⟨rfl, rfl⟩ | ⟨rfl, rfl⟩
    · exact ⟨_, rfl, fun w => by have : ∀ x l c, (Op.equalIn 10000 t (.slice (some x) l c) (.slice none 0 0)).run P w = .ok false w := fun x l c => equalIn_sl1 (P := P) 9999 hu x l c 0 0 w; simp only [binOp]; simp [eqGuard, Op.equal, Op.maxDepth, this]⟩
    · exact ⟨_, rfl, fun w => by have : ∀ x l c, (Op.equalIn 10000 t (.slice (some x) l c) (.slice none 0 0)).run P w = .ok false w := fun x l c => equalIn_sl1 (P := P) 9999 hu x l c 0 0 w; simp only [binOp]; simp [eqGuard, Op.equal, Op.maxDepth, this]⟩
  · obtain ⟨e, hu, hn⟩ := noSl_ok h
    obtain ⟨b, c, hr, hle, rfl⟩ := hx
    obtain rfl : vy = .slice none 0 0 := hy
    rcases isNo_ok hn with ⟨rfl, rfl⟩ | ⟨rfl, rfl⟩
    · exact ⟨_, rfl, fun w => by have : ∀ x l c, (Op.equalIn 10000 t (.slice (some x) l c) (.slice none 0 0)).run P w = .ok false w := fun x l c => equalIn_sl1 (P := P) 9999 hu x l c 0 0 w; simp only [binOp]; simp [eqGuard, Op.equal, Op.maxDepth, this]⟩
    · exact ⟨_, rfl, fun w => by have : ∀ x l c, (Op.equalIn 10000 t (.slice (some x) l c) (.slice none 0 0)).run P w = .ok false w := fun x l c => equalIn_sl1 (P := P) 9999 hu x l c 0 0 w; simp only [binOp]; simp [eqGuard, Op.equal, Op.maxDepth, this]⟩
  · exact evGen_ok h hx hy
end Go.Rx

set_option linter.unusedSimpArgs false
set_option linter.unusedVariables false
set_option linter.unusedSectionVars false
namespace Go.Rx
open Go
variable {P : Program} {R : Ren} {N : Nat} {T : Tr LV} {a : Act}

/-! ### Aggregates -/
theorem foldl_put (off : Nat) : ∀ (vs : List Value) (k : Nat) (cells : Array Value), off + k + vs.length ≤ cells.size →
    ((vs.zipIdx k).foldl (fun cs (p : Value × Nat) => cs.setIfInBounds (off + p.2) p.1) cells).toList = cells.toList.take (off + k) ++ vs ++ cells.toList.drop (off + k + vs.length)
  | [], k, cells, h => by simp
  | v :: vs, k, cells, h => by
    simp only [List.length_cons] at h
    rw [List.zipIdx_cons, List.foldl_cons, foldl_put off vs (k + 1) _ (by simp; omega)]
    simp only [Array.toList_setIfInBounds, List.length_cons]
    apply List.ext_getElem?
    intro i
    have hlen : cells.toList.length = cells.size := by simp
    simp only [List.append_assoc, List.getElem?_append, List.length_take, List.length_set, List.getElem?_take, List.getElem?_drop, List.getElem?_set, hlen]
    by_cases h1 : i < off + k
    · have e1 : min (off + (k + 1)) cells.size = off + (k + 1) := by omega
      have e2 : min (off + k) cells.size = off + k := by omega
      have : i < off + (k + 1) := by omega
      have : ¬ off + k = i := by omega
      simp [*]
    · have e1 : min (off + (k + 1)) cells.size = off + (k + 1) := by omega
      have e2 : min (off + k) cells.size = off + k := by omega
      by_cases h2 : i = off + k
      · subst h2
        have : off + k < cells.size := by omega
        simp [e1, e2, this]
      · have h3 : ¬ i < off + (k + 1) := by omega
        have h4 : i - (off + k) = (i - (off + (k + 1))) + 1 := by omega
        rw [e1, e2, if_neg h3, if_neg h1, h4]
        by_cases h5 : i - (off + (k + 1)) < vs.length
        · rw [if_pos h5]
          simp [h5]
        · rw [if_neg h5]
          have h6 : ¬ (i - (off + (k + 1)) + 1 < (v :: vs).length) := by simp; omega
          rw [List.getElem?_cons_succ]
          simp [h5]
          have h7 : ¬ (off + k = off + (k + 1) + vs.length + (i - (off + (k + 1)) - vs.length)) := by omega
          simp [h7]
          congr 1
          omega
theorem fill_ok {place : Nat → Option (Nat × Nat)} : ∀ {l : List (Nat × LV)} {l' : List (Nat × Value)} {cs r : List LV} {cells : Array Value}, fill place cs l = some r → PL R l l' → VRL R cs cells.toList →
    ∃ out, Instr.fill place cells l' = some out ∧ VRL R r out.toList
  | [], l', cs, r, cells, h, hl, hc => by
    simp [fill] at h; subst h
    rw [show l' = [] from hl]
    exact ⟨cells, rfl, hc⟩
  | (i, x) :: l, l', cs, r, cells, h, hl, hc => by
    obtain ⟨y, t, rfl, hx, ht⟩ := hl
    simp only [fill] at h
    cases hp : place i with
    | none => simp [hp] at h
    | some q =>
      obtain ⟨off, n⟩ := q
      simp only [hp] at h
      cases hb : Nat.beq x.cells.length n
      · simp [hb] at h
      · simp only [hb, cond_true] at h
        have hn : x.cells.length = n := (beq_iff _ _).1 hb
        cases hq : pt off cs x.cells with
        | none => simp [hq] at h
        | some cs' =>
          simp only [hq] at h
          have hcx := hx.cells
          obtain ⟨hv, hle⟩ := VRL.pt hq hc hcx
          have hsz : y.cells.size = n := by rw [← hn, ← hcx.length]; simp
          have hfold := foldl_put off y.cells.toList 0 cells (by simp at hle ⊢; omega)
          have hput : VRL R cs' (y.cells.zipIdx.foldl (fun cs (c, j) => cs.setIfInBounds (off + j) c) cells).toList := by
            have e : (y.cells.zipIdx.foldl (fun cs (c, j) => cs.setIfInBounds (off + j) c) cells).toList = ((y.cells.toList.zipIdx 0).foldl (fun cs (p : Value × Nat) => cs.setIfInBounds (off + p.2) p.1) cells).toList := by
              rw [← Array.foldl_toList, Array.toList_zipIdx]
            rw [e, hfold]
            simpa using hv
          obtain ⟨out, ho, hr⟩ := fill_ok h ht hput
          refine ⟨out, ?_, hr⟩
          simp only [Instr.fill, hp]
          rw [if_neg (by simp at hle ⊢; omega)]
          exact ho
theorem mapM_places {fs : List Field} {pl : List (Nat × Nat)} (h : places P fs = some pl) (w : World) :
    (fs.mapM fun f => (do pure (f.offset, ← sizeOf f.type) : Sem (Nat × Nat))).run P w = .ok pl w := by
  induction fs generalizing pl with
  | nil => simp [places] at h; subst h; rfl
  | cons f fs ih =>
    simp only [places] at h
    cases hs : szOf P f.type with
    | none => simp [hs] at h
    | some n =>
      cases hr : places P fs with
      | none => simp [hs, hr] at h
      | some m =>
        simp only [hs, hr, Option.some.injEq] at h; subst h
        simp only [List.mapM_cons, Sem.run_bind, run_sizeOf' hs, Result.andThen_ok, Sem.run_pure, ih hr]
theorem buildAt_ok {t : TypeId} {z r : List LV} {zv : Value} {l : List (Nat × LV)} {l' : Array (Nat × Value)} (h : buildAt P t z l = some r) (hz : VRL R z zv.cells.toList) (hzr : ∀ w, (zeroValue t).run P w = .ok zv w) (hl : PL R l l'.toList) :
    ∃ v, VR R (.agg r) v ∧ ∀ w, (Instr.build t l').run P w = .ok v w := by
  unfold buildAt at h
  cases hu : P.underlying t with
  | none => simp [hu] at h
  | some d =>
    cases d <;> simp only [hu] at h <;> try cases h
    case struct fs =>
      cases hp : places P fs.toList with
      | none => simp [hp] at h
      | some pl =>
        simp only [hp] at h
        obtain ⟨out, ho, hr⟩ := fill_ok h hl hz
        refine ⟨.agg out, ⟨out, rfl, hr⟩, fun w => ?_⟩
        have hm := mapM_places hp
        simp only [Instr.build, Sem.run_bind, hzr, Result.andThen_ok, run_underlying hu, Array.mapM_eq_mapM_toList, Sem.run_map, hm]
        have e : (fun (i : Nat) => pl.toArray[i]?) = (fun (i : Nat) => pl[i]?) := by funext i; simp
        simp only [e, ho]
        rfl
    case array n e =>
      cases hs : szOf P e with
      | none => simp [hs] at h
      | some k =>
        simp only [hs] at h
        obtain ⟨out, ho, hr⟩ := fill_ok h hl hz
        refine ⟨.agg out, ⟨out, rfl, hr⟩, fun w => ?_⟩
        simp only [Instr.build, Sem.run_bind, hzr, Result.andThen_ok, run_underlying hu, run_sizeOf' hs, ho]
        rfl

/-! ### Indices and bounds -/
theorem idx_ok {lv : LV} {v : Value} {len n : Nat} (h : idx lv len = some n) (hv : VR R lv v) : ∃ k, v = .int k (n : Int) ∧ n < len := by
  unfold idx at h
  split at h
  · rename_i k m
    cases hb : Nat.blt m len
    · simp [hb] at h
    · simp [hb] at h; subst h
      exact ⟨k, hv, by simpa using hb⟩
  · cases h
theorem bnd_ok {lv : LV} {v : Value} {y n : Nat} (h : bnd lv y = some n) (hv : VR R lv v) : n ≤ y ∧ ∀ (code : BoundsCode) (y' : Nat) (w : World), y ≤ y' → (Instr.sliceBound v y' code).run P w = .ok n w := by
  unfold bnd at h
  split at h
  · rename_i k m
    cases hb : Nat.ble m y
    · simp [hb] at h
    · simp [hb, nN_eq] at h; subst h
      have hle : m ≤ y := by simpa using hb
      refine ⟨hle, fun code y' w hy => ?_⟩
      rw [show v = .int k (m : Int) from hv]
      have h0 : (0 : Int) ≤ (m : Int) := by omega
      have h1 : (m : Int) ≤ (y' : Int) := by omega
      simp [Instr.sliceBound, asIntOf, h0, h1]
  · cases h
/-- The bounds of a slice expression whose capacity may be greater than what is known of it. -/
theorem bnds_ok (hF : FR R N T a.tmps) {isS : Bool} {len cap : Nat} {lo hi mx : Option Operand} {l h m : Nat} (hb : bnds T len cap lo hi mx = some (l, h, m)) (hlc : len ≤ cap) :
    l ≤ h ∧ h ≤ m ∧ m ≤ cap ∧ (mx = none → m = cap) ∧ ∀ cap' w, cap ≤ cap' → (Instr.sliceBounds isS len cap' (lo.map a.eval) (hi.map a.eval) (mx.map a.eval)).run P w = .ok (l, h, if mx.isNone then cap' else m) w := by
  unfold bnds at hb
  cases mx with
  | none =>
    simp only at hb
    cases hi with
    | none =>
      simp only at hb
      cases lo with
      | none =>
        simp at hb
        obtain ⟨rfl, rfl, rfl⟩ := hb
        exact ⟨Nat.zero_le _, hlc, Nat.le_refl _, fun _ => rfl, fun cap' w _ => by simp [Instr.sliceBounds]⟩
      | some x =>
        simp only at hb
        cases hx : evO T x with
        | none => simp [hx] at hb
        | some v =>
          simp only [hx] at hb
          cases hy : bnd v len with
          | none => simp [hy] at hb
          | some n =>
            simp [hy] at hb
            obtain ⟨rfl, rfl, rfl⟩ := hb
            obtain ⟨h1, h2⟩ := bnd_ok (P := P) hy (evO_ok hF hx)
            exact ⟨h1, hlc, Nat.le_refl _, fun _ => rfl, fun cap' w _ => by simp [Instr.sliceBounds, h2 _ _ _ (Nat.le_refl _)]⟩
    | some y =>
      simp only at hb
      cases hy : evO T y with
      | none => simp [hy] at hb
      | some vy =>
        simp only [hy] at hb
        cases hh : bnd vy cap with
        | none => simp [hh] at hb
        | some n =>
          simp only [hh] at hb
          obtain ⟨h3, h4⟩ := bnd_ok (P := P) hh (evO_ok hF hy)
          cases lo with
          | none =>
            simp at hb
            obtain ⟨rfl, rfl, rfl⟩ := hb
            exact ⟨Nat.zero_le _, h3, Nat.le_refl _, fun _ => rfl, fun cap' w hc => by simp [Instr.sliceBounds, h4 _ _ _ hc]⟩
          | some x =>
            simp only at hb
            cases hx : evO T x with
            | none => simp [hx] at hb
            | some v =>
              simp only [hx] at hb
              cases hl : bnd v n with
              | none => simp [hl] at hb
              | some k =>
                simp [hl] at hb
                obtain ⟨rfl, rfl, rfl⟩ := hb
                obtain ⟨h1, h2⟩ := bnd_ok (P := P) hl (evO_ok hF hx)
                exact ⟨h1, h3, Nat.le_refl _, fun _ => rfl, fun cap' w hc => by simp [Instr.sliceBounds, h4 _ _ _ hc, h2 _ _ _ (Nat.le_refl _)]⟩
  | some z =>
    simp only at hb
    cases hz : evO T z with
    | none => simp [hz] at hb
    | some vz =>
      simp only [hz] at hb
      cases hm : bnd vz cap with
      | none => simp [hm] at hb
      | some m' =>
        simp only [hm] at hb
        obtain ⟨h5, h6⟩ := bnd_ok (P := P) hm (evO_ok hF hz)
        cases hi with
        | none => simp at hb
        | some y =>
          simp only at hb
          cases hy : evO T y with
          | none => simp [hy] at hb
          | some vy =>
            simp only [hy] at hb
            cases hh : bnd vy m' with
            | none => simp [hh] at hb
            | some n =>
              simp only [hh] at hb
              obtain ⟨h3, h4⟩ := bnd_ok (P := P) hh (evO_ok hF hy)
              cases lo with
              | none =>
                simp at hb
                obtain ⟨rfl, rfl, rfl⟩ := hb
                exact ⟨Nat.zero_le _, h3, h5, (fun h => by cases h), fun cap' w hc => by simp [Instr.sliceBounds, h6 _ _ _ hc, h4 _ _ _ (Nat.le_refl _)]⟩
              | some x =>
                simp only at hb
                cases hx : evO T x with
                | none => simp [hx] at hb
                | some v =>
                  simp only [hx] at hb
                  cases hl : bnd v n with
                  | none => simp [hl] at hb
                  | some k =>
                    simp [hl] at hb
                    obtain ⟨rfl, rfl, rfl⟩ := hb
                    obtain ⟨h1, h2⟩ := bnd_ok (P := P) hl (evO_ok hF hx)
                    exact ⟨h1, h3, h5, (fun h => by cases h), fun cap' w hc => by simp [Instr.sliceBounds, h6 _ _ _ hc, h4 _ _ _ (Nat.le_refl _), h2 _ _ _ (Nat.le_refl _)]⟩
theorem add_eq (b o n : Nat) : (⟨b, o, none⟩ : Addr).add n = ⟨b, o + n, none⟩ := by
  unfold Addr.add; split <;> simp_all
end Go.Rx

set_option linter.unusedSimpArgs false
set_option linter.unusedVariables false
set_option linter.unusedSectionVars false
namespace Go.Rx
open Go
variable {P : Program} {R : Ren} {N : Nat} {T : Tr LV} {a : Act}

theorem VR.gs_slice {id off el len : Nat} {b c : Nat} (hr : R id = some (b, c)) (h : el + len ≤ c) : VR R (.gs id off el len) (.slice (some ⟨b, off, none⟩) len (c - el)) := ⟨b, c, hr, h, rfl⟩
theorem evSlice_ok (hF : FR R N T a.tmps) {t : TypeId} {x lv : LV} {v : Value} {lo hi mx : Option Operand} (h : evSlice P T t x lo hi mx = some lv) (hv : VR R x v) :
    ∃ u, VR R lv u ∧ ∀ w, (Instr.sliceAt t v (lo.map a.eval) (hi.map a.eval) (mx.map a.eval)).run P w = .ok u w := by
  unfold evSlice at h
  cases hu : P.underlying t with
  | none => simp [hu] at h
  | some d =>
    cases d <;> simp only [hu] at h <;> try cases h
    case slice e =>
      cases hs : szOf P e with
      | none => simp [hs] at h
      | some z =>
        simp only [hs] at h
        cases x <;> simp only at h <;> try cases h
        case nils =>
          cases hb : bnds T 0 0 lo hi mx with
          | none => simp [hb] at h
          | some r =>
            obtain ⟨l, hh, m⟩ := r
            simp [hb] at h; subst h
            obtain ⟨h1, h2, h0, h3, h4⟩ := bnds_ok (P := P) hF (isS := true) hb (Nat.le_refl _)
            have h5 : m = 0 := by omega
            refine ⟨.slice none 0 0, rfl, fun w => ?_⟩
            rw [show v = .slice none 0 0 from hv]
            have h6 := h4 0 w (Nat.le_refl _)
            have : l = 0 := by omega
            have : hh = 0 := by omega
            subst l hh m
            simp only [Instr.sliceAt, Sem.run_bind, run_underlying hu, Result.andThen_ok, Instr.slice, h6, run_sizeOf' hs]
            cases mx <;> simp
        case sl id off len cap =>
          cases hlc : Nat.ble len cap
          · simp [hlc] at h
          · have hle : len ≤ cap := by simpa using hlc
            simp only [hlc, cond_true] at h
            cases hb : bnds T len cap lo hi mx with
            | none => simp [hb] at h
            | some r =>
              obtain ⟨l, hh, m⟩ := r
              simp only [hb] at h
              obtain ⟨h1, h2, h0, h3, h4⟩ := bnds_ok (P := P) hF (isS := true) hb hle
              obtain ⟨b, c, hr, rfl⟩ := hv
              have hm : ∀ w, (Instr.sliceBounds true len cap (lo.map a.eval) (hi.map a.eval) (mx.map a.eval)).run P w = .ok (l, hh, m) w := fun w => by
                rw [h4 cap w (Nat.le_refl _)]
                cases mx with
                | none => rw [h3 rfl]; rfl
                | some y => rfl
              cases hml : Nat.beq m l
              · have hml' : m ≠ l := (beq_false _ _).1 hml
                simp [nN_eq, hml] at h; subst h
                refine ⟨_, ⟨b, c, hr, rfl⟩, fun w => ?_⟩
                simp [Instr.sliceAt, run_underlying hu, Instr.slice, hm, run_sizeOf' hs, hml', add_eq]
              · have hml' : m = l := (beq_iff _ _).1 hml
                subst hml'
                simp [nN_eq, hml] at h; subst h
                refine ⟨_, ⟨b, c, hr, rfl⟩, fun w => ?_⟩
                simp [Instr.sliceAt, run_underlying hu, Instr.slice, hm, run_sizeOf' hs]
        case gs id off el len =>
          obtain ⟨b, c, hr, hle, rfl⟩ := hv
          cases mx with
          | none =>
            simp only at h
            cases hb : bnds T len len lo hi none with
            | none => simp [hb] at h
            | some r =>
              obtain ⟨l, hh, m⟩ := r
              simp only [hb] at h
              obtain ⟨h1, h2, h0, h3, h4⟩ := bnds_ok (P := P) hF (isS := true) hb (Nat.le_refl _)
              have hm : ∀ w, (Instr.sliceBounds true len (c - el) (lo.map a.eval) (hi.map a.eval) none).run P w = .ok (l, hh, c - el) w := fun w => by
                have := h4 (c - el) w (by omega)
                simpa using this
              have h3' := h3 rfl
              cases hl0 : Nat.beq l 0
              · have hl0' : l ≠ 0 := (beq_false _ _).1 hl0
                simp only [hl0, cond_false] at h
                cases hlt : Nat.blt l len
                · simp [hlt] at h
                · have hlt' : l < len := by simpa using hlt
                  simp [hlt, nN_eq] at h; subst h
                  have hne : ¬ (c - el = l) := by omega
                  have e1 : c - el - l = c - (el + l) := by omega
                  refine ⟨_, ⟨b, c, hr, by omega, rfl⟩, fun w => ?_⟩
                  simp [Instr.sliceAt, run_underlying hu, Instr.slice, hm, run_sizeOf' hs, hne, add_eq, e1]
              · have hl0' : l = 0 := (beq_iff _ _).1 hl0
                subst hl0'
                simp [hl0, nN_eq] at h; subst h
                refine ⟨_, ⟨b, c, hr, by omega, rfl⟩, fun w => ?_⟩
                simp [Instr.sliceAt, run_underlying hu, Instr.slice, hm, run_sizeOf' hs, add_eq]
          | some y =>
            simp only at h
            cases hb : bnds T len len lo hi (some y) with
            | none => simp [hb] at h
            | some r =>
              obtain ⟨l, hh, m⟩ := r
              simp only [hb] at h
              obtain ⟨h1, h2, h0, h3, h4⟩ := bnds_ok (P := P) hF (isS := true) hb (Nat.le_refl _)
              have hm : ∀ w, (Instr.sliceBounds true len (c - el) (lo.map a.eval) (hi.map a.eval) (some (a.eval y))).run P w = .ok (l, hh, m) w := fun w => by
                have := h4 (c - el) w (by omega)
                simpa using this
              cases hml : Nat.beq m l
              · have hml' : m ≠ l := (beq_false _ _).1 hml
                simp [nN_eq, hml] at h; subst h
                refine ⟨_, ⟨b, c, hr, rfl⟩, fun w => ?_⟩
                simp [Instr.sliceAt, run_underlying hu, Instr.slice, hm, run_sizeOf' hs, hml', add_eq]
              · have hml' : m = l := (beq_iff _ _).1 hml
                subst hml'
                simp [nN_eq, hml] at h; subst h
                refine ⟨_, ⟨b, c, hr, rfl⟩, fun w => ?_⟩
                simp [Instr.sliceAt, run_underlying hu, Instr.slice, hm, run_sizeOf' hs]
    case array n e =>
      cases hs : szOf P e with
      | none => simp [hs] at h
      | some z =>
        simp only [hs] at h
        cases x <;> simp only at h <;> try cases h
        case p id off =>
          cases hb : bnds T n n lo hi mx with
          | none => simp [hb] at h
          | some r =>
            obtain ⟨l, hh, m⟩ := r
            simp only [hb] at h
            obtain ⟨h1, h2, h0, h3, h4⟩ := bnds_ok (P := P) hF (isS := false) hb (Nat.le_refl _)
            obtain ⟨b, c, hr, rfl⟩ := hv
            have hm : ∀ w, (Instr.sliceBounds false n n (lo.map a.eval) (hi.map a.eval) (mx.map a.eval)).run P w = .ok (l, hh, m) w := fun w => by
              rw [h4 n w (Nat.le_refl _)]
              cases mx with
              | none => rw [h3 rfl]; rfl
              | some y => rfl
            cases hml : Nat.beq m l
            · have hml' : m ≠ l := (beq_false _ _).1 hml
              simp [nN_eq, hml] at h; subst h
              refine ⟨_, ⟨b, c, hr, rfl⟩, fun w => ?_⟩
              simp [Instr.sliceAt, Instr.sureAddr, run_underlying hu, hm, run_sizeOf' hs, hml', add_eq]
            · have hml' : m = l := (beq_iff _ _).1 hml
              subst hml'
              simp [nN_eq, hml] at h; subst h
              refine ⟨_, ⟨b, c, hr, rfl⟩, fun w => ?_⟩
              simp [Instr.sliceAt, Instr.sureAddr, run_underlying hu, hm, run_sizeOf' hs]
end Go.Rx

set_option linter.unusedSimpArgs false
set_option linter.unusedVariables false
set_option linter.unusedSectionVars false
namespace Go.Rx
open Go
variable {P : Program} {R : Ren} {N : Nat} {T : Tr LV} {a : Act}

/-- The operation yields a value that the run's stands for, in every world, and leaves the world. -/
def Val (P : Program) (R : Ren) (a : Act) (o : Oper) (lv : LV) : Prop := ∃ v, VR R lv v ∧ ∀ w, (execOp a.eval o).run P w = .ok (.value v) w
theorem val_of {o : Oper} {lv : LV} {v : Value} {s : Sem Value} (hv : VR R lv v) (hs : ∀ w, s.run P w = .ok v w) (he : execOp a.eval o = (do pure (.value (← s)))) : Val P R a o lv :=
  ⟨v, hv, fun w => by rw [he]; simp [hs w]⟩
theorem fieldOf_ok {t : TypeId} {k : Nat} {f : Field} (h : fieldOf P t k = some f) : ∃ fs, P.underlying t = some (.struct fs) ∧ fs[k]? = some f := by
  unfold fieldOf at h
  cases hu : P.underlying t with
  | none => simp [hu] at h
  | some d => cases d <;> simp [hu] at h; exact ⟨_, rfl, h⟩
theorem addr_ok {id off : Nat} {i z : Option Nat} {lv : LV} (h : addr id off i z = some lv) : ∃ n m, i = some n ∧ z = some m ∧ lv = .p id (off + n * m) := by
  unfold addr at h
  cases i <;> cases z <;> simp [nN_eq] at h
  exact ⟨_, _, rfl, rfl, h.symm⟩
theorem evPure_ok (hF : FR R N T a.tmps) (o : Oper) {lv : LV} (h : evPure P T o.op = some lv) : Val P R a o lv := by
  obtain ⟨dst, op, ty, pos, after, guard⟩ := o
  simp only at h
  cases op <;> simp only [evPure] at h <;> try (exact absurd h (by simp))
  case move x => exact ⟨a.eval x, evO_ok hF h, fun w => rfl⟩
  case assign x => exact ⟨a.eval x, evO_ok hF h, fun w => rfl⟩
  case pick c x y =>
    unfold evPick at h
    cases hc : evO T c with
    | none => simp [hc] at h
    | some v =>
      have hv := evO_ok hF hc
      cases v <;> simp [hc] at h
      rename_i b
      have hb : a.eval c = .bool b := hv
      cases b
      · exact ⟨a.eval y, evO_ok hF h, fun w => by simp [execOp, hb, asBool]⟩
      · exact ⟨a.eval x, evO_ok hF h, fun w => by simp [execOp, hb, asBool]⟩
  case build t ps =>
    unfold evBuild at h
    cases hz : zeroOf P t with
    | none => simp [hz] at h
    | some z =>
      cases hp : parts T ps.toList with
      | none => simp [hz, hp] at h
      | some l =>
        simp only [hz, hp] at h
        cases hb : buildAt P t z.cells l with
        | none => simp [hb] at h
        | some cs =>
          simp [hb] at h; subst h
          obtain ⟨zv, hzv, hzr⟩ := run_zeroOf hz (R := R)
          obtain ⟨v, hv, hr⟩ := buildAt_ok hb hzv.cells hzr (l' := ps.map fun (i, x) => (i, a.eval x)) (by simpa using parts_ok hF hp)
          exact val_of hv hr rfl
  case nilCheck x =>
    unfold evNil at h
    cases hx : evO T x with
    | none => simp [hx] at h
    | some v =>
      have hv := evO_ok hF hx
      cases v <;> simp [hx] at h
      case p id off => subst h; obtain ⟨b, c, hr, e⟩ := hv; exact ⟨_, ⟨b, c, hr, rfl⟩, fun w => by simp [execOp, e]⟩
      case yld id => subst h; obtain ⟨b, c, hr, e⟩ := hv; exact ⟨_, ⟨b, c, hr, rfl⟩, fun w => by simp [execOp, e]⟩
      case fn f x1 x2 =>
        cases f <;> simp at h
        subst h; obtain ⟨y1, y2, e, h1, h2⟩ := hv; exact ⟨_, ⟨y1, y2, rfl, h1, h2⟩, fun w => by simp [execOp, e]⟩
  case binOp op t x y yt =>
    unfold evBinO at h
    cases hx : evO T x with
    | none => simp [hx] at h
    | some vx =>
      cases hy : evO T y with
      | none => simp [hx, hy] at h
      | some vy =>
        simp only [hx, hy] at h
        obtain ⟨v, hv, hr⟩ := evBin_ok h (evO_ok hF hx) (evO_ok hF hy)
        exact val_of hv hr rfl
  case unOp op t x =>
    unfold evUn at h
    cases hx : evO T x with
    | none => simp [hx] at h
    | some vx =>
      simp only [hx] at h
      cases ht : toV vx with
      | none => simp [ht] at h
      | some u =>
        simp only [ht] at h
        cases hs : ofSem P (Op.unary op u) with
        | none => simp [hs] at h
        | some v =>
          simp only [hs] at h
          obtain e := toV_ok ht (evO_ok hF hx)
          exact val_of (ofV_ok h) (ofSem_ok hs) (by simp only [execOp, e])
  case convert s d x =>
    unfold evConv at h
    cases hx : evO T x with
    | none => simp [hx] at h
    | some vx =>
      simp only [hx] at h
      cases ht : toV vx with
      | none => simp [ht] at h
      | some u =>
        simp only [ht] at h
        cases hs : ofSem P (Go.convert s d u) with
        | none => simp [hs] at h
        | some v =>
          simp only [hs] at h
          obtain e := toV_ok ht (evO_ok hF hx)
          exact val_of (ofV_ok h) (ofSem_ok hs) (by simp only [execOp, e])
  case makeInterface t x =>
    unfold evMkIf at h
    cases hu : P.underlying t with
    | none => simp [hu] at h
    | some d =>
      cases hx : evO T x with
      | none => cases d <;> simp [hu, hx] at h
      | some vx =>
        have hv := evO_ok hF hx
        have key : lv = .ifc t vx ∧ (Instr.makeInterface t (a.eval x)).run P = fun w => .ok (.iface t (a.eval x)) w := by
          cases d <;> simp [hu, hx] at h <;> refine ⟨h.symm, funext fun w => ?_⟩ <;> simp [Instr.makeInterface, run_underlying hu]
        obtain ⟨rfl, hk⟩ := key
        exact val_of ⟨_, rfl, hv⟩ (fun w => by rw [hk]) rfl
  case makeFunc f x c =>
    cases f <;> simp only at h <;> try (exact absurd h (by simp))
    unfold evMkFn at h
    rename_i g
    cases hx : evOs T x.toList with
    | none => simp [hx] at h
    | some vx =>
      cases hc : evOs T c.toList with
      | none => simp [hx, hc] at h
      | some vc =>
        simp [hx, hc] at h; subst h
        exact ⟨_, ⟨x.map a.eval, c.map a.eval, rfl, by simpa using evOs_ok hF hx, by simpa using evOs_ok hF hc⟩, fun w => by simp [execOp, Instr.makeFunc]⟩
  case slice t x lo hi mx =>
    unfold evSliceO at h
    cases hx : evO T x with
    | none => simp [hx] at h
    | some vx =>
      simp only [hx] at h
      obtain ⟨v, hv, hr⟩ := evSlice_ok hF h (evO_ok hF hx)
      exact val_of hv hr rfl
  case fieldAddr t x f =>
    unfold evFAddr at h
    cases hx : evO T x with
    | none => simp [hx] at h
    | some vx =>
      have hv := evO_ok hF hx
      cases vx <;> simp [hx] at h
      rename_i id off
      cases hf : fieldOf P t f with
      | none => simp [hf] at h
      | some fd =>
        simp only [hf] at h
        cases hs : szOf P fd.type with
        | none => simp [hs] at h
        | some n =>
          cases n with
          | zero => simp [hs] at h
          | succ n =>
            simp [hs, nN_eq] at h; subst h
            obtain ⟨fs, hu, hg⟩ := fieldOf_ok hf
            obtain ⟨b, c, hr, e⟩ := hv
            exact val_of (s := Instr.fieldAt t (a.eval x) f) ⟨b, c, hr, rfl⟩ (fun w => by simp [Instr.fieldAt, run_underlying hu, hg, e, Instr.sureAddr, fieldPlace, run_sizeOf' hs, add_eq]) rfl
  case field t x f =>
    unfold evField at h
    cases hx : evO T x with
    | none => simp [hx] at h
    | some vx =>
      have hv := evO_ok hF hx
      cases vx <;> simp [hx] at h
      rename_i cs
      cases hf : fieldOf P t f with
      | none => simp [hf] at h
      | some fd =>
        simp only [hf] at h
        obtain ⟨fs, hu, hg⟩ := fieldOf_ok hf
        obtain ⟨vs, e, hl⟩ := hv
        obtain ⟨v, hv, hr⟩ := run_prt h hl
        exact val_of (s := Instr.field t (a.eval x) f) hv (fun w => by simp [Instr.field, run_underlying hu, hg, e, asAgg, hr]) rfl
  case indexAddr t x ix =>
    unfold evIAddr at h
    cases hx : evO T x with
    | none => simp [hx] at h
    | some vx =>
      cases hi : evO T ix with
      | none => cases vx <;> simp [hx, hi] at h
      | some vi =>
        have hv := evO_ok hF hx
        have hvi := evO_ok hF hi
        cases vx <;> simp [hx, hi] at h
        case p id off =>
          cases hu : P.underlying t with
          | none => simp [hu] at h
          | some d =>
            cases d <;> simp [hu] at h
            obtain ⟨n, z, h1, h2, rfl⟩ := addr_ok h
            obtain ⟨k, ei, hlt⟩ := idx_ok h1 hvi
            obtain ⟨b, c, hr, e⟩ := hv
            have h0 : (0 : Int) ≤ (n : Int) := by omega
            exact val_of (s := Instr.indexAt t (a.eval x) (a.eval ix)) ⟨b, c, hr, rfl⟩ (fun w => by simp [Instr.indexAt, run_underlying hu, e, ei, asIntOf, Instr.sureAddr, hlt, run_sizeOf' h2, add_eq]) rfl
        case sl id off len cap =>
          cases hu : P.underlying t with
          | none => simp [hu] at h
          | some d =>
            cases d <;> simp [hu] at h
            obtain ⟨n, z, h1, h2, rfl⟩ := addr_ok h
            obtain ⟨k, ei, hlt⟩ := idx_ok h1 hvi
            obtain ⟨b, c, hr, e⟩ := hv
            exact val_of (s := Instr.indexAt t (a.eval x) (a.eval ix)) ⟨b, c, hr, rfl⟩ (fun w => by simp [Instr.indexAt, run_underlying hu, e, ei, asIntOf, hlt, run_sizeOf' h2, add_eq]) rfl
        case gs id off el len =>
          cases hu : P.underlying t with
          | none => simp [hu] at h
          | some d =>
            cases d <;> simp [hu] at h
            obtain ⟨n, z, h1, h2, rfl⟩ := addr_ok h
            obtain ⟨k, ei, hlt⟩ := idx_ok h1 hvi
            obtain ⟨b, c, hr, _, e⟩ := hv
            exact val_of (s := Instr.indexAt t (a.eval x) (a.eval ix)) ⟨b, c, hr, rfl⟩ (fun w => by simp [Instr.indexAt, run_underlying hu, e, ei, asIntOf, hlt, run_sizeOf' h2, add_eq]) rfl
  case index t x ix =>
    unfold evIndex at h
    cases hu : P.underlying t with
    | none => simp [hu] at h
    | some d =>
      cases d <;> simp only [hu] at h <;> try cases h
      case string =>
        unfold evIdxS at h
        cases hx : evO T x with
        | none => simp [hx] at h
        | some vx =>
          cases hi : evO T ix with
          | none => cases vx <;> simp [hx, hi] at h
          | some vi =>
            have hv := evO_ok hF hx
            have hvi := evO_ok hF hi
            cases vx <;> simp only [hx, hi] at h <;> try cases h
            rename_i s
            cases vi <;> try cases h
            rename_i k m
            cases m with
            | negSucc m => cases h
            | ofNat m =>
            simp only at h
            cases hb : s[m]? with
            | none => simp [hb] at h
            | some b =>
              simp [hb, nN_eq] at h; subst h
              have e : a.eval x = .string s := hv
              have ei : a.eval ix = .int k (m : Int) := hvi
              exact val_of (s := Instr.index t (a.eval x) (a.eval ix)) (v := .int .u8 (b.toNat : Int)) rfl (fun w => by simp [Instr.index, run_underlying hu, e, ei, asIntOf, hb]) rfl
      case array n e =>
        unfold evIdxA at h
        cases hx : evO T x with
        | none => simp [hx] at h
        | some vx =>
          cases hi : evO T ix with
          | none => cases vx <;> simp [hx, hi] at h
          | some vi =>
            have hv := evO_ok hF hx
            have hvi := evO_ok hF hi
            cases vx <;> simp only [hx, hi] at h <;> try cases h
            rename_i cs
            cases h1 : idx vi n with
            | none => simp [h1] at h
            | some i =>
              cases h2 : szOf P e with
              | none => simp [h1, h2] at h
              | some z =>
                simp only [h1, h2] at h
                obtain ⟨vs, e1, hl⟩ := hv
                obtain ⟨k, ei, hlt⟩ := idx_ok h1 hvi
                obtain ⟨v, hv, hr⟩ := run_prt h hl
                exact val_of (s := Instr.index t (a.eval x) (a.eval ix)) hv (fun w => by simp [Instr.index, run_underlying hu, e1, ei, asIntOf, hlt, run_sizeOf' h2, hr]) rfl
  case extract x k =>
    unfold evExtract at h
    cases hx : evO T x with
    | none => simp [hx] at h
    | some vx =>
      have hv := evO_ok hF hx
      cases vx <;> simp [hx, at_eq] at h
      rename_i l
      obtain ⟨vs, e, hl⟩ := hv
      obtain ⟨v, hg, hr⟩ := hl.get h
      simp at hg
      exact val_of (s := Instr.extract (a.eval x) k) hr (fun w => by simp [Instr.extract, e, hg]) rfl
end Go.Rx

set_option linter.unusedSimpArgs false
set_option linter.unusedVariables false
set_option linter.unusedSectionVars false
namespace Go.Rx
open Go
variable {P : Program}

/-- What block b holds, where the run holds an object. -/
def Holds (R : Ren) (w : World) (b c : Nat) : LO → Prop
  | .row t cs => ∃ vs : Array Value, w.heap[b]? = some (.cells vs t (0, 0)) ∧ VRL R cs vs.toList
  | .gro t z cs => ∃ (n : Nat) (xs : List Value), w.ownsRow 0 t z (.slice (some ⟨b, 0, none⟩) n c) n xs ∧ VRL R cs xs
  | .ro base cs => b < w.heap.size ∧ ∀ (i : Nat) (lv : LV), cs[i]? = some lv → lv.kn = true → ∃ v, w.cell? ⟨b, base + i, none⟩ = some v ∧ VR R lv v
  | .loop st pend N T ps as body d => ∃ (fn : FuncId) (tm : Array Value) (db dc : Nat), w.heap[b]? = some (.loop { state := st, pending := pend, fn, tmps := tm, params := ps, assign := as, body, defers := db }) ∧ R d = some (db, dc) ∧ FR R N T tm
  | .dfr => w.heap[b]? = some (.deferred (some []))
theorem own_block {w : World} {b c n t z : Nat} {xs : List Value} (h : w.ownsRow 0 t z (.slice (some ⟨b, 0, none⟩) n c) n xs) :
    ∃ cur, w.heap[b]? = some (.cells cur t (0, 0)) ∧ n ≤ c ∧ c ≤ maxLen ∧ cur.size = c * z ∧ cur.toList.take (n * z) = xs := by
  rcases h.2 with ⟨h0, _⟩ | ⟨g, cap, cur, hv, _, hg, h1, h2, h3, h4⟩
  · cases h0
  · cases hv
    exact ⟨cur, hg, h1, h2, h3, h4⟩
theorem FR.mono {R R' : Ren} (h : Le R R') {N : Nat} {T : Tr LV} {tm : Array Value} (hF : FR R N T tm) : FR R' N T tm := ⟨hF.size, fun t lv ht => (hF.at_ t lv ht).mono h⟩
theorem Holds.mono {R R' : Ren} (h : Le R R') {w : World} {b c : Nat} {o : LO} (ho : Holds R w b c o) : Holds R' w b c o := by
  cases o with
  | row t cs => obtain ⟨vs, h1, h2⟩ := ho; exact ⟨vs, h1, h2.mono h⟩
  | gro t z cs => obtain ⟨n, xs, h1, h2⟩ := ho; exact ⟨n, xs, h1, h2.mono h⟩
  | ro base cs => exact ⟨ho.1, fun i lv hi hk => (ho.2 i lv hi hk).imp fun v hv => ⟨hv.1, hv.2.mono h⟩⟩
  | loop st pend N T ps as body d => obtain ⟨fn, tm, db, dc, h1, h2, h3⟩ := ho; exact ⟨fn, tm, db, dc, h1, h _ _ h2, h3.mono h⟩
  | dfr => exact ho
theorem own_kept {w w' : World} {b c n t z : Nat} {xs : List Value} (hk : w'.heap[b]? = w.heap[b]?) (h : w.ownsRow 0 t z (.slice (some ⟨b, 0, none⟩) n c) n xs) : w'.ownsRow 0 t z (.slice (some ⟨b, 0, none⟩) n c) n xs := by
  obtain ⟨cur, h0, h1, h2, h3, h4⟩ := own_block h
  exact ⟨h.1, .inr ⟨b, c, cur, rfl, Nat.zero_le _, hk.trans h0, h1, h2, h3, h4⟩⟩
theorem lt_of_some {w : World} {b : Nat} {o : Obj} (h : w.heap[b]? = some o) : b < w.heap.size := (Array.getElem?_eq_some_iff.1 h).1
theorem cell_kept {w w' : World} {b o : Nat} (hk : w'.heap[b]? = w.heap[b]?) : w'.cell? ⟨b, o, none⟩ = w.cell? ⟨b, o, none⟩ := by
  unfold World.cell?; rw [hk]
theorem Holds.kept {R : Ren} {w w' : World} {b c : Nat} {o : LO} (hk : w'.heap[b]? = w.heap[b]?) (ho : Holds R w b c o) : Holds R w' b c o := by
  cases o with
  | row t cs => obtain ⟨vs, h1, h2⟩ := ho; exact ⟨vs, hk.trans h1, h2⟩
  | gro t z cs => obtain ⟨n, xs, h1, h2⟩ := ho; exact ⟨n, xs, own_kept hk h1, h2⟩
  | ro base cs =>
    have hb : b < w'.heap.size := lt_of_some (hk.trans (Array.getElem?_eq_getElem ho.1))
    exact ⟨hb, fun i lv hi hk0 => (ho.2 i lv hi hk0).imp fun v hv => ⟨(cell_kept hk).trans hv.1, hv.2⟩⟩
  | loop st pend N T ps as body d => obtain ⟨fn, tm, db, dc, h1, h2, h3⟩ := ho; exact ⟨fn, tm, db, dc, hk.trans h1, h2, h3⟩
  | dfr => exact hk.trans ho
theorem Holds.lt {R : Ren} {w : World} {b c : Nat} {o : LO} (ho : Holds R w b c o) : b < w.heap.size := by
  cases o with
  | row t cs => obtain ⟨vs, h1, h2⟩ := ho; exact lt_of_some h1
  | gro t z cs => obtain ⟨n, xs, h1, h2⟩ := ho; obtain ⟨cur, h0, _⟩ := own_block h1; exact lt_of_some h0
  | ro base cs => exact ho.1
  | loop st pend N T ps as body d => obtain ⟨fn, tm, db, dc, h1, h2, h3⟩ := ho; exact lt_of_some h1
  | dfr => exact lt_of_some ho
/-- A row of cells, whole or as far as it is known. -/
theorem Holds.view {R : Ren} {w : World} {b c : Nat} {o : LO} {cs : List LV} (ho : Holds R w b c o) (hc : o.cs = some cs) : ∃ (cur : Array Value) (t : TypeId), w.heap[b]? = some (.cells cur t (0, 0)) ∧ VRL R cs (cur.toList.take cs.length) := by
  cases o with
  | row t cs' =>
    simp [LO.cs] at hc; subst hc
    obtain ⟨vs, h1, h2⟩ := ho
    exact ⟨vs, t, h1, by rw [← h2.length, List.take_length]; exact h2⟩
  | gro t z cs' =>
    simp [LO.cs] at hc; subst hc
    obtain ⟨n, xs, h1, h2⟩ := ho
    obtain ⟨cur, h0, _, _, _, h4⟩ := own_block h1
    refine ⟨cur, t, h0, ?_⟩
    have h5 : xs.length = n * z := h1.1
    rw [← h2.length, h5, h4]; exact h2
  | ro base cs => cases hc
  | loop st pend N T ps as body d => cases hc
  | dfr => cases hc

structure Rel (R : Ren) (H : Hp) (w : World) : Prop where
  at_ : ∀ id o, H.get id = some o → ∃ b c, R id = some (b, c) ∧ Holds R w b c o
  inj : ∀ id id' o o' b c c', H.get id = some o → H.get id' = some o' → R id = some (b, c) → R id' = some (b, c') → id = id'
/-- What no step of closed code touches. -/
structure Quiet (w w' : World) : Prop where
  os : w'.os = w.os
  tape : w'.tape = w.tape
  output : w'.output = w.output
theorem Quiet.refl (w : World) : Quiet w w := ⟨rfl, rfl, rfl⟩
theorem Quiet.trans {w w₁ w₂ : World} (h : Quiet w w₁) (h' : Quiet w₁ w₂) : Quiet w w₂ := ⟨h'.os.trans h.os, h'.tape.trans h.tape, h'.output.trans h.output⟩
/-- From one world to a later one: the names from nx to nx' are new; of the blocks that there were only those that wr names may have changed. -/
structure Ext (R R' : Ren) (nx nx' : Nat) (wr : List Nat) (w w' : World) : Prop where
  le : Le R R'
  out : ∀ id, id < nx ∨ nx' ≤ id → R' id = R id
  size : w.heap.size ≤ w'.heap.size
  keep : ∀ b, b < w.heap.size → (∀ id ∈ wr, id < nx → ∀ c, R id ≠ some (b, c)) → w'.heap[b]? = w.heap[b]?
  new : ∀ id b c, nx ≤ id → id < nx' → R' id = some (b, c) → w.heap.size ≤ b ∨ ∃ i ∈ wr, i < nx ∧ ∃ c', R i = some (b, c')
  quiet : Quiet w w'
def Free (R : Ren) (nx nx' : Nat) : Prop := ∀ id, nx ≤ id → id < nx' → R id = none
theorem Ext.refl (R : Ren) (nx : Nat) (wr : List Nat) (w : World) : Ext R R nx nx wr w w :=
  ⟨Le.refl R, fun _ _ => rfl, Nat.le_refl _, fun _ _ _ => rfl, fun _ _ _ h1 h2 _ => by omega, Quiet.refl w⟩
theorem Ext.wider {R R' : Ren} {nx nx' : Nat} {wr wr' : List Nat} {w w' : World} (h : Ext R R' nx nx' wr w w') (hs : ∀ id ∈ wr, id ∈ wr') : Ext R R' nx nx' wr' w w' :=
  ⟨h.le, h.out, h.size, fun b hb hn => h.keep b hb fun id hi => hn id (hs id hi), fun id b c h1 h2 h3 => (h.new id b c h1 h2 h3).imp_right fun ⟨i, hi, r⟩ => ⟨i, hs i hi, r⟩, h.quiet⟩
theorem Ext.trans {R R₁ R₂ : Ren} {nx nx₁ nx₂ : Nat} {wr : List Nat} {w w₁ w₂ : World} (h : Ext R R₁ nx nx₁ wr w w₁) (h' : Ext R₁ R₂ nx₁ nx₂ wr w₁ w₂) (h1 : nx ≤ nx₁) (h2 : nx₁ ≤ nx₂) : Ext R R₂ nx nx₂ wr w w₂ := by
  refine ⟨h.le.trans h'.le, fun id hid => ?_, Nat.le_trans h.size h'.size, fun b hb hn => ?_, fun id b c hid1 hid2 hr => ?_, h.quiet.trans h'.quiet⟩
  · rcases hid with hlt | hge
    · rw [h'.out id (.inl (by omega)), h.out id (.inl hlt)]
    · rw [h'.out id (.inr hge), h.out id (.inr (by omega))]
  · rw [h'.keep b (by have := h.size; omega) fun id hi hlt c hr => ?_, h.keep b hb hn]
    by_cases hn1 : id < nx
    · rw [h.out id (.inl hn1)] at hr; exact hn id hi hn1 c hr
    · rcases h.new id b c (by omega) hlt hr with hb' | ⟨i, hi', hlt', c', hr'⟩
      · omega
      · exact hn i hi' hlt' c' hr'
  · by_cases hlt : id < nx₁
    · rw [h'.out id (.inl hlt)] at hr
      exact h.new id b c hid1 hlt hr
    · rcases h'.new id b c (by omega) hid2 hr with hb' | ⟨i, hi, hlt', c', hr'⟩
      · exact .inl (Nat.le_trans h.size hb')
      · by_cases hn1 : i < nx
        · rw [h.out i (.inl hn1)] at hr'
          exact .inr ⟨i, hi, hn1, c', hr'⟩
        · exact h.new i b c' (by omega) hlt' hr'
/-- What has come of an operation or a call. -/
def Did (R : Ren) (nx : Nat) (r : Out) (w w' : World) (v : Value) : Prop := ∃ R', Ext R R' nx r.nx r.wr w w' ∧ Rel R' r.H w' ∧ VR R' r.v v

/-! ### New blocks -/
def upd (R : Ren) (id : Nat) (x : Nat × Nat) : Ren := fun j => if j = id then some x else R j
theorem upd_same (R : Ren) (id : Nat) (x : Nat × Nat) : upd R id x id = some x := by simp [upd]
theorem upd_ne (R : Ren) {id j : Nat} (x : Nat × Nat) (h : j ≠ id) : upd R id x j = R j := by simp [upd, h]
theorem le_upd {R : Ren} {id : Nat} {x : Nat × Nat} (h : R id = none) : Le R (upd R id x) := fun j y hy => by
  by_cases e : j = id
  · subst e; rw [h] at hy; cases hy
  · rw [upd_ne R x e]; exact hy
theorem fresh_eq (H : Hp) (nx : Nat) (o : LO) (v : Nat → LV) (wr : List Nat) : fresh H nx o v wr = some ⟨v nx, H.set nx (some o), nx + 1, wr⟩ := by
  simp [fresh, Tr.force_eq, nN_eq]
/-- A new block at the end of the heap. -/
theorem did_new {R : Ren} {H : Hp} {w w' : World} {nx c : Nat} {o : LO} {lv : LV} {v : Value} (hR : Rel R H w) (hf : R nx = none) (hs : w.heap.size < w'.heap.size) (hk : ∀ b, b < w.heap.size → w'.heap[b]? = w.heap[b]?) (hq : Quiet w w')
    (ho : Holds (upd R nx (w.heap.size, c)) w' w.heap.size c o) (hv : VR (upd R nx (w.heap.size, c)) lv v) : Did R nx ⟨lv, H.set nx (some o), nx + 1, []⟩ w w' v := by
  have hle := le_upd (x := (w.heap.size, c)) hf
  refine ⟨upd R nx (w.heap.size, c), ⟨hle, fun id hid => upd_ne R _ (by dsimp only at hid; omega), by omega, fun b hb _ => hk b hb, fun id b c' h1 h2 hr => ?_, hq⟩, ⟨fun id o' ho' => ?_, fun id id' o₁ o₂ b c₁ c₂ h1 h2 r1 r2 => ?_⟩, hv⟩
  · have : id = nx := by simp at h2; omega
    subst this
    rw [upd_same] at hr; cases hr; exact .inl (Nat.le_refl _)
  · by_cases e : id = nx
    · subst e
      rw [Tr.get_set_same] at ho'; cases ho'
      exact ⟨_, _, upd_same R _ _, ho⟩
    · rw [Tr.get_set_ne _ _ e] at ho'
      obtain ⟨b, c', hr, hh⟩ := hR.at_ id o' ho'
      exact ⟨b, c', hle _ _ hr, (hh.kept (hk b hh.lt)).mono hle⟩
  · by_cases e : id = nx
    · by_cases e' : id' = nx
      · rw [e, e']
      · rw [Tr.get_set_ne _ _ e'] at h2
        obtain ⟨b', c', hr, hh⟩ := hR.at_ id' o₂ h2
        subst e
        rw [upd_same] at r1; cases r1
        rw [upd_ne R _ e', hr] at r2; cases r2
        exact absurd hh.lt (Nat.lt_irrefl _)
    · rw [Tr.get_set_ne _ _ e] at h1
      by_cases e' : id' = nx
      · obtain ⟨b', c', hr, hh⟩ := hR.at_ id o₁ h1
        subst e'
        rw [upd_same] at r2; cases r2
        rw [upd_ne R _ e, hr] at r1; cases r1
        exact absurd hh.lt (Nat.lt_irrefl _)
      · rw [Tr.get_set_ne _ _ e'] at h2
        rw [upd_ne R _ e] at r1; rw [upd_ne R _ e'] at r2
        exact hR.inj id id' o₁ o₂ b c₁ c₂ h1 h2 r1 r2
theorem heap_alloc' (w : World) (o : Obj) : (w.alloc o).heap.size = w.heap.size + 1 ∧ (w.alloc o).heap[w.heap.size]? = some o ∧ ∀ b, b < w.heap.size → (w.alloc o).heap[b]? = w.heap[b]? :=
  ⟨by simp, heap_alloc_new w o, fun b hb => heap_alloc_old w o b hb⟩
/-- A new row. -/
theorem did_row {R : Ren} {H : Hp} {w : World} {nx c : Nat} {t : TypeId} {cs : List LV} {vs : Array Value} {lv : LV} {v : Value} (hR : Rel R H w) (hf : R nx = none) (hc : VRL R cs vs.toList) (hv : VR (upd R nx (w.heap.size, c)) lv v) :
    Did R nx ⟨lv, H.set nx (some (.row t cs)), nx + 1, []⟩ w (w.alloc (.cells vs t)) v := by
  obtain ⟨h1, h2, h3⟩ := heap_alloc' w (.cells vs t)
  exact did_new hR hf (by omega) h3 ⟨rfl, rfl, rfl⟩ ⟨vs, h2, hc.mono (le_upd hf)⟩ hv
/-! ### Reading -/
theorem run_view {R : Ren} {w : World} {b : Nat} {cur : Array Value} {ty t : TypeId} {cs : List LV} {off : Nat} {lv : LV} (hb : w.heap[b]? = some (.cells cur ty (0, 0))) (hv : VRL R cs (cur.toList.take cs.length)) (h : prt P t cs off = some lv) :
    ∃ v, VR R lv v ∧ (loadVar t ⟨b, off, none⟩).run P w = .ok v w := by
  obtain ⟨v, hvr, hp⟩ := run_prt (vs := (cur.toList.take cs.length).toArray) h (by simpa using hv)
  refine ⟨v, hvr, ?_⟩
  have hp := hp w
  unfold prt at h
  have hcell : ∀ k, w.cell? ⟨b, k, none⟩ = cur[k]? := fun k => cell_of_row w b k cur ty (0, 0) hb
  cases ha : isAg P t with
  | none => simp [ha] at h
  | some g =>
    cases g with
    | false =>
      simp [ha, at_eq] at h
      obtain ⟨u, hg, hu⟩ := hv.get h
      have hlt : off < cs.length := (List.getElem?_eq_some_iff.1 h).1
      have hg' : cur[off]? = some u := by
        rw [List.getElem?_take, if_pos hlt] at hg; simpa using hg
      simp [part, run_isAg ha, hlt, hg'] at hp
      subst hp
      simp [loadVar, run_isAg ha, hcell, hg']
    | true =>
      cases hs : szOf P t with
      | none => simp [ha, hs] at h
      | some n =>
        cases hk : tk n (dp off cs) with
        | none => simp [ha, hs, hk] at h
        | some r =>
          obtain ⟨rfl, hl⟩ := tk_ok hk
          rw [dp_eq] at hl
          simp [part, run_isAg ha, run_sizeOf' hs] at hp
          subst hp
          have hlen := hv.length
          have hlen' : cs.length ≤ cur.size := by simp at hlen; omega
          simp at hl
          have key := run_loadCells_list (P := P) w ⟨b, off, none⟩ (((cur.toList.take cs.length).drop off).take n) (fun j u hu => by
            rw [add_eq, hcell]
            rw [List.getElem?_take] at hu
            split at hu
            · rw [List.getElem?_drop, List.getElem?_take] at hu
              split at hu
              · simpa using hu
              · cases hu
            · cases hu)
          have hn : (((cur.toList.take cs.length).drop off).take n).length = n := by simp; omega
          rw [hn] at key
          simp [loadVar, run_isAg ha, run_sizeOf' hs, key]
/-- Reading where only some cells are known. -/
theorem allKn_get : ∀ {l : List LV} {i : Nat} {x : LV}, allKn l = true → l[i]? = some x → x.kn = true
  | [], i, x, _, h => by simp at h
  | y :: l, i, x, ha, h => by
    simp only [allKn] at ha
    cases hy : y.kn <;> simp [hy] at ha
    cases i with
    | zero => simp at h; subst h; exact hy
    | succ i => exact allKn_get ha (by simpa using h)
theorem run_ro {R : Ren} {w : World} {b base : Nat} {t : TypeId} {cs : List LV} {off : Nat} {lv : LV} (hv : ∀ (i : Nat) (lv : LV), cs[i]? = some lv → lv.kn = true → ∃ v, w.cell? ⟨b, base + i, none⟩ = some v ∧ VR R lv v) (h : prt P t cs off = some lv) (hkn : allKn lv.cells = true) :
    ∃ v, VR R lv v ∧ (loadVar t ⟨b, base + off, none⟩).run P w = .ok v w := by
  unfold prt at h
  cases ha : isAg P t with
  | none => simp [ha] at h
  | some g =>
    cases g with
    | false =>
      simp [ha, at_eq] at h
      obtain ⟨u, hg, hu⟩ := hv off lv h (by
        cases lv with
        | agg l => rfl
        | _ => exact allKn_get (i := 0) hkn rfl)
      exact ⟨u, hu, by simp [loadVar, run_isAg ha, hg]⟩
    | true =>
      cases hs : szOf P t with
      | none => simp [ha, hs] at h
      | some n =>
        cases hk : tk n (dp off cs) with
        | none => simp [ha, hs, hk] at h
        | some r =>
          simp [ha, hs, hk] at h; subst h
          obtain ⟨rfl, hl⟩ := tk_ok hk
          rw [dp_eq] at hl ⊢
          have hrow : ∀ (l : List LV) (k : Nat), (∀ (i : Nat) (lv : LV), l[i]? = some lv → ∃ v, w.cell? ⟨b, k + i, none⟩ = some v ∧ VR R lv v) → ∃ us : List Value, VRL R l us ∧ ∀ (j : Nat) (u : Value), us[j]? = some u → w.cell? ⟨b, k + j, none⟩ = some u := by
            intro l
            induction l with
            | nil => exact fun k _ => ⟨[], rfl, fun j u hu => by simp at hu⟩
            | cons x l ih =>
              intro k hx
              obtain ⟨v, h1, h2⟩ := hx 0 x rfl
              obtain ⟨us, h3, h4⟩ := ih (k + 1) fun i lv hi => by
                have := hx (i + 1) lv (by simpa using hi)
                rwa [show k + (i + 1) = k + 1 + i by omega] at this
              refine ⟨v :: us, VRL.cons h2 h3, fun j u hu => ?_⟩
              cases j with
              | zero => simp at hu; subst hu; exact h1
              | succ j =>
                have := h4 j u (by simpa using hu)
                rwa [show k + (j + 1) = k + 1 + j by omega]
          obtain ⟨us, h1, h2⟩ := hrow ((cs.drop off).take n) (base + off) fun i lv hi => by
            rw [List.getElem?_take] at hi
            split at hi
            · rw [List.getElem?_drop] at hi
              have := hv (off + i) lv hi (allKn_get (i := i) (x := lv) hkn (by simp only [LV.cells, dp_eq]; rw [List.getElem?_take, if_pos (by assumption), List.getElem?_drop]; exact hi))
              rwa [← Nat.add_assoc] at this
            · cases hi
          have hlen : us.length = n := by rw [h1.length]; simp at hl ⊢; omega
          have key := run_loadCells_list (P := P) w ⟨b, base + off, none⟩ us (fun j u hu => by rw [add_eq]; exact h2 j u hu)
          rw [hlen] at key
          exact ⟨.agg us.toArray, ⟨us.toArray, rfl, by simpa using h1⟩, by simp [loadVar, run_isAg ha, run_sizeOf' hs, key]⟩
end Go.Rx

set_option linter.unusedSimpArgs false
set_option linter.unusedVariables false
set_option linter.unusedSectionVars false
namespace Go.Rx
open Go
variable {P : Program} {R : Ren} {N : Nat} {T : Tr LV} {a : Act} {H : Hp} {w : World} {nx : Nat}

/-- The operation yields a value, or nothing (the value that nothing stands for), and a world, as the run says. -/
def Ran (P : Program) (R : Ren) (nx : Nat) (a : Act) (o : Oper) (r : Out) (w : World) : Prop :=
  ∃ v w', Did R nx r w w' v ∧ ((execOp a.eval o).run P w = .ok (.value v) w' ∨ ((execOp a.eval o).run P w = .ok .skip w' ∧ v = undef))
theorem ran_of {o : Oper} {r : Out} {v : Value} {w' : World} {s : Sem Value} (hd : Did R nx r w w' v) (hs : s.run P w = .ok v w') (he : execOp a.eval o = (do pure (.value (← s)))) : Ran P R nx a o r w :=
  ⟨v, w', hd, .inl (by rw [he]; simp [hs])⟩
theorem did_same (hR : Rel R H w) {lv : LV} {v : Value} (hv : VR R lv v) : Did R nx ⟨lv, H, nx, []⟩ w w v := ⟨R, Ext.refl R nx [] w, hR, hv⟩
theorem evPureO_ok (hF : FR R N T a.tmps) (hR : Rel R H w) {o : Oper} {r : Out} (h : evPureO P T H nx o.op = some r) : Ran P R nx a o r w := by
  unfold evPureO at h
  cases hp : evPure P T o.op with
  | none => simp [hp] at h
  | some lv =>
    simp [hp] at h; subst h
    obtain ⟨v, hv, hr⟩ := evPure_ok hF o hp
    exact ⟨v, w, did_same hR hv, .inl (hr w)⟩
theorem evLoad_ok (hF : FR R N T a.tmps) (hR : Rel R H w) {o : Oper} {t : TypeId} {x : Operand} {r : Out} (ho : o.op = .load t x) (h : evLoad P T H nx t x = some r) : Ran P R nx a o r w := by
  unfold evLoad at h
  cases hx : evO T x with
  | none => simp [hx] at h
  | some vx =>
    have hv := evO_ok hF hx
    cases vx <;> simp only [hx] at h <;> try cases h
    rename_i id off
    cases hg : H.get id with
    | none => simp [hg] at h
    | some ob =>
      simp only [hg] at h
      cases hc : ob.cs with
      | none =>
        simp only [hc] at h
        cases ob <;> simp only at h <;> try cases h
        rename_i base cs
        cases hle : Nat.ble base off
        · simp [hle] at h
        · simp only [hle, cond_true] at h
          cases hp : prt P t cs (off - base) with
          | none => simp [hp] at h
          | some lv =>
            cases hkn : allKn lv.cells
            · simp [hp, hkn] at h
            simp [hp, hkn] at h; subst h
            obtain ⟨b, c, hr, e⟩ := hv
            obtain ⟨b', c', hr', hh⟩ := hR.at_ id _ hg
            rw [hr] at hr'; cases hr'
            obtain ⟨v, hvr, hl⟩ := run_ro (P := P) hh.2 hp hkn
            have hle' : base ≤ off := by simpa using hle
            rw [show base + (off - base) = off by omega] at hl
            exact ran_of (s := Instr.loadAt t (a.eval x)) (did_same hR hvr) (by simp [Instr.loadAt, e, Instr.sureAddr, hl]) (by simp only [execOp, ho])
      | some cs =>
        simp only [hc] at h
        cases hp : prt P t cs off with
        | none => simp [hp] at h
        | some lv =>
          simp [hp] at h; subst h
          obtain ⟨b, c, hr, e⟩ := hv
          obtain ⟨b', c', hr', hh⟩ := hR.at_ id ob hg
          rw [hr] at hr'; cases hr'
          obtain ⟨cur, ty, hb, hcv⟩ := hh.view hc
          obtain ⟨v, hvr, hl⟩ := run_view hb hcv hp
          exact ran_of (s := Instr.loadAt t (a.eval x)) (did_same hR hvr) (by simp [Instr.loadAt, e, Instr.sureAddr, hl]) (by simp only [execOp, ho])
theorem evAlloc_ok (hR : Rel R H w) {o : Oper} {t : TypeId} {r : Out} (hf : Free R nx r.nx) (ho : o.op = .alloc t) (h : evAlloc P H nx t = some r) : Ran P R nx a o r w := by
  unfold evAlloc at h
  cases hz : zeroOf P t with
  | none => simp [hz] at h
  | some z =>
    simp [hz, fresh_eq] at h; subst h
    obtain ⟨zv, hzv, hzr⟩ := run_zeroOf hz (R := R)
    exact ran_of (s := Instr.alloc t true (.tuple #[])) (did_row (c := 0) hR (hf nx (Nat.le_refl _) (Nat.lt_succ_self _)) hzv.cells ⟨_, _, upd_same R nx _, rfl⟩)
      (by simp [Instr.alloc, hzr, newVar, newRow]) (by simp only [execOp, ho])
theorem evBox_ok (hF : FR R N T a.tmps) (hR : Rel R H w) {o : Oper} {t : TypeId} {x : Operand} {r : Out} (hf : Free R nx r.nx) (ho : o.op = .box t x) (h : evBox T H nx t x = some r) : Ran P R nx a o r w := by
  unfold evBox at h
  cases hx : evO T x with
  | none => simp [hx] at h
  | some v =>
    simp [hx, fresh_eq] at h; subst h
    exact ran_of (s := Instr.box t (a.eval x)) (did_row (c := 0) hR (hf nx (Nat.le_refl _) (Nat.lt_succ_self _)) (evO_ok hF hx).cells ⟨_, _, upd_same R nx _, rfl⟩)
      (by simp [Instr.box, newVar, newRow]) (by simp only [execOp, ho])
/-- n copies of a list of values. -/
theorem rep_eq (n : Nat) (z : List LV) : rep n z = (List.replicate n z).flatten := by
  induction n with
  | zero => rfl
  | succ n ih => simp [rep, ap_eq, ih, List.replicate_succ]
theorem VRL.rep {z : List LV} {vs : List Value} (h : VRL R z vs) : ∀ n, VRL R (Rx.rep n z) (List.replicate n vs).flatten
  | 0 => rfl
  | n + 1 => by
    rw [Rx.rep, ap_eq, List.replicate_succ, List.flatten_cons]
    exact h.append (VRL.rep h n)
theorem get_flat {z : List Value} (hz : 0 < z.length) : ∀ (n i : Nat), i < n * z.length → (List.replicate n z).flatten[i]? = z[i % z.length]?
  | 0, i, h => by simp at h
  | n + 1, i, h => by
    rw [List.replicate_succ, List.flatten_cons, List.getElem?_append]
    by_cases hi : i < z.length
    · rw [if_pos hi, Nat.mod_eq_of_lt hi]
    · have h' : (n + 1) * z.length = n * z.length + z.length := Nat.succ_mul n z.length
      rw [if_neg hi, get_flat hz n (i - z.length) (by omega), Nat.mod_eq_sub_mod (a := i) (by omega)]
theorem cells_flat (z : Array Value) (n m : Nat) (hz : z.size = m) (hm : 0 < m) : ((Array.range (n * m)).map fun i => z[i % z.size]!).toList = (List.replicate n z.toList).flatten := by
  apply List.ext_getElem?
  intro i
  subst hz
  simp only [Array.toList_map, Array.toList_range, List.getElem?_map]
  by_cases hi : i < n * z.size
  · rw [get_flat (by simpa using hm) n i (by simpa using hi)]
    have hlt : i % z.size < z.size := Nat.mod_lt _ hm
    simp [List.getElem?_range hi, getElem!_pos z (i % z.size) hlt, hlt]
  · have h1 : (List.range (n * z.size))[i]? = none := by simp; omega
    have h2 : (List.replicate n z.toList).flatten[i]? = none := by
      rw [List.getElem?_eq_none]
      simp
      omega
    rw [h1, h2]; rfl
theorem evBuildSl_ok (hF : FR R N T a.tmps) (hR : Rel R H w) {o : Oper} {t : TypeId} {len : Nat} {ps : Array (Nat × Operand)} {r : Out} (hf : Free R nx r.nx) (ho : o.op = .buildSlice t len ps) (h : evBuildSl P T H nx t len ps = some r) : Ran P R nx a o r w := by
  unfold evBuildSl at h
  cases hu : P.underlying t with
  | none => simp [hu] at h
  | some d =>
    cases d <;> simp only [hu] at h <;> try cases h
    rename_i e
    cases hz : zeroOf P e with
    | none => simp [hz] at h
    | some z =>
      cases hs : szOf P e with
      | none => simp [hz, hs] at h
      | some n =>
        cases hp : parts T ps.toList with
        | none => simp [hz, hs, hp] at h
        | some l =>
          simp only [hz, hs, hp] at h
          cases hb : (Nat.beq z.cells.length n && Nat.blt 0 n && Nat.ble (len * n) 16777216)
          · simp [hb] at h
          · simp only [hb, cond_true] at h
            simp only [Bool.and_eq_true, beq_iff] at hb
            obtain ⟨⟨h1, h2⟩, h3⟩ := hb
            have h2 : 0 < n := by simpa using h2
            have h3 : len * n ≤ 16777216 := by simpa using h3
            cases hfl : fill (fun i => some (i * n, n)) (rep len z.cells) l with
            | none => simp [hfl] at h
            | some cs =>
              simp [hfl, fresh_eq] at h; subst h
              obtain ⟨zv, hzv, hzr⟩ := run_zeroOf hz (R := R)
              have hzs : zv.cells.size = n := by rw [← h1, ← hzv.cells.length]; simp
              have hc0 : VRL R (rep len z.cells) ((Array.range (len * n)).map fun i => zv.cells[i % zv.cells.size]!).toList := by
                rw [cells_flat _ len n hzs h2]; exact hzv.cells.rep len
              obtain ⟨out, hout, hor⟩ := fill_ok (l' := (ps.map fun (i, x) => (i, a.eval x)).toList) hfl (by simpa using parts_ok hF hp) hc0
              have hcap : ¬ (16777216 < len * n) := by omega
              refine ran_of (s := Instr.buildSlice t len (ps.map fun (i, x) => (i, a.eval x))) (w' := w.alloc (.cells out e)) (v := .slice (some ⟨w.heap.size, 0, none⟩) len len) (did_row (c := 0) hR (hf nx (Nat.le_refl _) (Nat.lt_succ_self _)) hor ⟨_, _, upd_same R nx _, rfl⟩) ?_ (by simp only [execOp, ho])
              have hcap' : ¬ (len * n > 2 ^ 24) := by omega
              by_cases h0 : len * n = 0
              · have e0 : ((Array.range (len * n)).map fun i => (#[] : Array Value)[i % (#[] : Array Value).size]!) = ((Array.range (len * n)).map fun i => zv.cells[i % zv.cells.size]!) := by rw [h0]; simp
                simp only [Instr.buildSlice, Sem.run_bind, run_underlying hu, Result.andThen_ok, run_sizeOf' hs, Sem.run_ite, if_neg hcap', if_pos h0, Sem.run_pure, newRow, run_newObj, e0, hout]
                rfl
              · simp only [Instr.buildSlice, Sem.run_bind, run_underlying hu, Result.andThen_ok, run_sizeOf' hs, Sem.run_ite, if_neg hcap', if_neg h0, hzr, Sem.run_pure, hout, newRow, run_newObj]
                rfl
end Go.Rx

set_option linter.unusedSimpArgs false
set_option linter.unusedVariables false
set_option linter.unusedSectionVars false
namespace Go.Rx
open Go
variable {P : Program} {R : Ren} {N : Nat} {T : Tr LV} {a : Act} {H : Hp} {w : World} {nx : Nat}

/-! ### Stores -/
theorem heap_setRow (w : World) (b : Nat) (cs : Array Value) : (∀ b', b' ≠ b → (w.setRow b cs).heap[b']? = w.heap[b']?) ∧ ∀ (cur : Array Value) (t : TypeId) (f : Nat × Nat), w.heap[b]? = some (.cells cur t f) → (w.setRow b cs).heap[b]? = some (.cells cs t f) := by
  refine ⟨fun b' hne => ?_, fun cur t f h => ?_⟩
  · simp [World.setRow, Array.getElem?_modify, Ne.symm hne]
  · simp [World.setRow, Array.getElem?_modify, h]
/-- A row is written. -/
theorem did_write {w' : World} {id b c : Nat} {o o' : LO} {lv : LV} {v : Value} (hR : Rel R H w) (hid : H.get id = some o) (hr : R id = some (b, c)) (hlt : id < nx) (hs : w'.heap.size = w.heap.size) (hk : ∀ b', b' ≠ b → w'.heap[b']? = w.heap[b']?) (hq : Quiet w w')
    (ho : Holds R w' b c o') (hv : VR R lv v) : Did R nx ⟨lv, H.set id (some o'), nx, [id]⟩ w w' v := by
  refine ⟨R, ⟨Le.refl R, fun _ _ => rfl, by omega, fun b' hb hn => hk b' fun e => ?_, fun id' b' c' h1 h2 _ => by dsimp only at h2; omega, hq⟩, ⟨fun id' x hx => ?_, fun i1 i2 o1 o2 b' c1 c2 h1 h2 r1 r2 => ?_⟩, hv⟩
  · subst e; exact hn id (by simp) hlt c hr
  · by_cases e : id' = id
    · subst e
      rw [Tr.get_set_same] at hx; cases hx
      exact ⟨b, c, hr, ho⟩
    · rw [Tr.get_set_ne _ _ e] at hx
      obtain ⟨b', c', hr', hh⟩ := hR.at_ id' x hx
      exact ⟨b', c', hr', hh.kept (hk b' fun eb => e (by subst eb; exact hR.inj id' id x o b' c' c hx hid hr' hr))⟩
  · have g1 : ∃ o, H.get i1 = some o := by
      by_cases e : i1 = id
      · exact ⟨o, e ▸ hid⟩
      · rw [Tr.get_set_ne _ _ e] at h1; exact ⟨_, h1⟩
    have g2 : ∃ o, H.get i2 = some o := by
      by_cases e : i2 = id
      · exact ⟨o, e ▸ hid⟩
      · rw [Tr.get_set_ne _ _ e] at h2; exact ⟨_, h2⟩
    obtain ⟨x1, g1⟩ := g1; obtain ⟨x2, g2⟩ := g2
    exact hR.inj i1 i2 x1 x2 b' c1 c2 g1 g2 r1 r2
/-- Cells are stored into a row that a name stands for. -/
theorem store_ok {id off b c : Nat} {vs : List LV} {us : List Value} {H' : Hp} {lv : LV} {v : Value} (hR : Rel R H w) (h : wrt H id off vs = some H') (hr : R id = some (b, c)) (hlt : id < nx) (hvs : VRL R vs us) (h1 : allOne vs = true) (hv : VR R lv v) :
    ∃ w', (storeCells ⟨b, off, none⟩ us).run P w = .ok () w' ∧ Did R nx ⟨lv, H', nx, [id]⟩ w w' v := by
  unfold wrt at h
  cases hg : H.get id with
  | none => simp [hg] at h
  | some o =>
    obtain ⟨b', c', hr', hh⟩ := hR.at_ id o hg
    rw [hr] at hr'; cases hr'
    cases o <;> simp only [hg] at h <;> try cases h
    case row t cs =>
      cases hp : pt off cs vs with
      | none => simp [hp] at h
      | some cs' =>
        simp [hp, Tr.force_eq] at h; subst h
        obtain ⟨cur, hb, hc⟩ := hh
        obtain ⟨hc', hle⟩ := VRL.pt hp hc hvs
        have hst := run_storeCells_at P b off t us 0 cur w hb (by simpa using hle) (hvs.one h1)
        simp only [Nat.add_zero] at hst
        obtain ⟨hs1, hs2⟩ := heap_setRow w b (cur.toList.take off ++ us ++ cur.toList.drop (off + us.length)).toArray
        exact ⟨_, hst, did_write hR hg hr hlt (by simp) hs1 ⟨rfl, rfl, rfl⟩ ⟨_, hs2 _ _ _ hb, by simpa using hc'⟩ hv⟩
    case gro t z cs =>
      cases hp : pt off cs vs with
      | none => simp [hp] at h
      | some cs' =>
        simp [hp, Tr.force_eq] at h; subst h
        obtain ⟨n, xs, hown, hc⟩ := hh
        obtain ⟨cur, hb, h2, h3, h4, h5⟩ := own_block hown
        obtain ⟨hc', hle⟩ := VRL.pt hp hc hvs
        have hxl : xs.length = n * z := hown.1
        have hcap : n * z ≤ c * z := Nat.mul_le_mul_right _ h2
        have hst := run_storeCells_at P b off t us 0 cur w hb (by omega) (hvs.one h1)
        simp only [Nat.add_zero] at hst
        obtain ⟨hs1, hs2⟩ := heap_setRow w b (cur.toList.take off ++ us ++ cur.toList.drop (off + us.length)).toArray
        refine ⟨_, hst, did_write hR hg hr hlt (by simp) hs1 ⟨rfl, rfl, rfl⟩ ⟨n, xs.take off ++ us ++ xs.drop (off + us.length), ?_, hc'⟩ hv⟩
        refine ⟨by simp; omega, .inr ⟨b, c, _, rfl, Nat.zero_le _, hs2 _ _ _ hb, h2, h3, by simp; omega, ?_⟩⟩
        have hcl : cur.toList.length = cur.size := by simp
        rw [← h5]
        apply List.ext_getElem?
        intro i
        simp only [List.toList_toArray, List.getElem?_take, List.getElem?_append, List.length_append, List.length_take, List.getElem?_drop, List.append_assoc, hcl]
        have e1 : min off cur.size = off := by omega
        have e2 : min off (min (n * z) cur.size) = off := by omega
        rw [e1, e2]
        by_cases g1 : i < n * z
        · rw [if_pos g1]
          by_cases g2 : i < off
          · rw [if_pos g2, if_pos g2, if_pos g2, if_pos g2, if_pos g1]
          · rw [if_neg g2, if_neg g2]
            by_cases g3 : i - off < us.length
            · rw [if_pos g3, if_pos g3]
            · rw [if_neg g3, if_neg g3, if_pos (by omega)]
        · rw [if_neg g1, if_neg (show ¬ i < off by omega), if_neg (show ¬ i - off < us.length by omega), if_neg (by omega)]
theorem evStore_ok (hF : FR R N T a.tmps) (hR : Rel R H w) {o : Oper} {t : TypeId} {x y : Operand} {r : Out} (ho : o.op = .store t x y) (h : evStore P T H nx t x y = some r) : Ran P R nx a o r w := by
  unfold evStore at h
  cases hx : evO T x with
  | none => simp [hx] at h
  | some vx =>
    cases hy : evO T y with
    | none => cases vx <;> simp [hx, hy] at h
    | some vy =>
      cases hs : szOf P t with
      | none => cases vx <;> simp [hx, hy, hs] at h
      | some n =>
        have hvx := evO_ok hF hx
        have hvy := evO_ok hF hy
        cases vx <;> simp only [hx, hy, hs] at h <;> try cases h
        rename_i id off
        cases hb : (Nat.beq vy.cells.length n && allOne vy.cells && Nat.blt id nx)
        · simp [hb] at h
        · simp only [hb, cond_true] at h
          simp only [Bool.and_eq_true, beq_iff] at hb
          obtain ⟨⟨h1, h2⟩, h3⟩ := hb
          have h3 : id < nx := by simpa using h3
          cases hw : wrt H id off vy.cells with
          | none => simp [hw] at h
          | some H' =>
            simp [hw] at h; subst h
            obtain ⟨b, c, hr, e⟩ := hvx
            obtain ⟨w', hst, hd⟩ := store_ok (P := P) (lv := .tup []) (v := undef) hR hw hr h3 hvy.cells h2 ⟨#[], rfl, rfl⟩
            have hsz : (a.eval y).cells.size = n := by rw [← h1, ← hvy.cells.length]; simp
            refine ⟨undef, w', hd, .inr ⟨?_, rfl⟩⟩
            simp [execOp, ho, Instr.storeAt, e, Instr.sureAddr, storeVar, run_sizeOf' hs, hsz, hst]

/-! ### make -/
theorem evMakeSl_ok (hF : FR R N T a.tmps) (hR : Rel R H w) {o : Oper} {t : TypeId} {l c : Operand} {r : Out} (hf : Free R nx r.nx) (ho : o.op = .makeSlice t l c) (h : evMakeSl P T H nx t l c = some r) : Ran P R nx a o r w := by
  unfold evMakeSl at h
  cases hu : P.underlying t with
  | none => simp [hu] at h
  | some d =>
    cases d <;> simp only [hu] at h <;> try cases h
    rename_i e
    cases hi : P.info? e with
    | none => simp [hi] at h
    | some i =>
      cases hz : i.zero with
      | none => simp [hi, hz] at h
      | some zv =>
        simp only [hi, hz] at h
        cases hzz : ofV zv with
        | none => simp [hzz] at h
        | some z =>
          cases hl : evO T l with
          | none => simp [hzz, hl] at h
          | some vl =>
            cases hc : evO T c with
            | none => simp [hzz, hl, hc] at h
            | some vc =>
              simp only [hzz, hl, hc] at h
              split at h
              · rename_i z' l' c' e1 e2 e3
                cases e1; cases e2; cases e3
                rw [nN_eq] at h
                cases hb : (Nat.beq z.cells.length i.size && Nat.blt 0 i.size && Nat.ble l' c' && Nat.ble c' 1000000 && Nat.ble (i.bytes * c') 281474976710656)
                · simp [hb] at h
                · simp only [hb, cond_true, fresh_eq] at h
                  simp only [Bool.and_eq_true, beq_iff] at hb
                  obtain ⟨⟨⟨⟨h1, h2⟩, h3⟩, h4⟩, h5⟩ := hb
                  have h2 : 0 < i.size := by simpa using h2
                  have h3 : l' ≤ c' := by simpa using h3
                  have h4 : c' ≤ 1000000 := by simpa using h4
                  have h5 : i.bytes * c' ≤ 281474976710656 := by simpa using h5
                  cases h
                  have el : a.eval l = .int .i64 (l' : Int) := evO_ok hF hl
                  have ec : a.eval c = .int .i64 (c' : Int) := evO_ok hF hc
                  have hzv : VR R z zv := ofV_ok hzz
                  have hzs : zv.cells.size = i.size := by rw [← h1, ← hzv.cells.length]; simp
                  have hrun := run_make (P := P) w t e i zv hu hi hz .i64 .i64 (l' : Int) (c' : Int) (by omega) (by omega) (by rw [← Int.natCast_mul]; omega) (by omega)
                  have hcells : VRL R (rep c' z.cells) (madeCells zv.cells ((c' : Int).toNat * i.size)).toList := by
                    have := cells_flat zv.cells c' i.size hzs h2
                    simp only [Int.toNat_natCast, madeCells]
                    rw [this]; exact hzv.cells.rep c'
                  exact ran_of (s := Instr.makeSlice t (a.eval l) (a.eval c)) (did_row (c := 0) hR (hf nx (Nat.le_refl _) (Nat.lt_succ_self _)) hcells ⟨_, _, upd_same R nx _, rfl⟩) (by rw [el, ec]; exact hrun) (by simp only [execOp, ho])
              · cases h
end Go.Rx

set_option linter.unusedSimpArgs false
set_option linter.unusedVariables false
set_option linter.unusedSectionVars false
namespace Go.Rx
open Go
variable {P : Program} {R : Ren} {N : Nat} {T : Tr LV} {a : Act} {H : Hp} {w : World} {nx : Nat}

/-- A row that has grown, in its place or in a new block. -/
theorem did_grown {w' : World} {H₁ : Hp} {g c n z : Nat} {e : TypeId} {cs : List LV} {xs : List Value} {ob : Option Nat} {wr : List Nat} (hR : Rel R H w) (hf : R nx = none)
    (hown : w'.ownsRow 0 e z (.slice (some ⟨g, 0, none⟩) n c) n xs) (hcs : VRL R cs xs) (hg : w.grownBy w' ob) (hob : ob = some g ∨ g = w.heap.size)
    (h1 : ∀ id o, H₁.get id = some o → H.get id = some o ∧ ∀ b c', R id = some (b, c') → some b ≠ ob) (hwr : ∀ b, ob = some b → ∃ i ∈ wr, i < nx ∧ ∃ c', R i = some (b, c')) :
    Did R nx ⟨.gs nx 0 0 n, H₁.set nx (some (.gro e z cs)), nx + 1, wr⟩ w w' (.slice (some ⟨g, 0, none⟩) n c) := by
  have hle := le_upd (x := (g, c)) hf
  obtain ⟨cur, hgg, hnc, _⟩ := own_block hown
  have hgl := lt_of_some hgg
  refine ⟨upd R nx (g, c), ⟨hle, fun id hid => upd_ne R _ (by dsimp only at hid; omega), hg.size, fun b hb hn => hg.block b hb fun eb => ?_, fun id b c' i1 i2 hr => ?_, ⟨hg.os, hg.tape, hg.output⟩⟩, ⟨fun id o ho => ?_, fun id id' o₁ o₂ b c₁ c₂ g1 g2 r1 r2 => ?_⟩, ⟨g, c, upd_same R nx _, by omega, by simp⟩⟩
  · obtain ⟨i, hi, hlt, c', hr⟩ := hwr b eb.symm
    exact hn i hi hlt c' hr
  · have : id = nx := by dsimp only at i2; omega
    subst this
    rw [upd_same] at hr; cases hr
    rcases hob with h | h
    · obtain ⟨i, hi, hlt, c', hr⟩ := hwr _ h
      exact .inr ⟨i, hi, hlt, c', hr⟩
    · exact .inl (by omega)
  · by_cases e' : id = nx
    · subst e'
      rw [Tr.get_set_same] at ho; cases ho
      exact ⟨g, c, upd_same R _ _, n, xs, hown, hcs.mono hle⟩
    · rw [Tr.get_set_ne _ _ e'] at ho
      obtain ⟨ho', hne⟩ := h1 id o ho
      obtain ⟨b, c', hr, hh⟩ := hR.at_ id o ho'
      exact ⟨b, c', hle _ _ hr, (hh.kept (hg.block b hh.lt (hne b c' hr))).mono hle⟩
  · have old : ∀ i o, i ≠ nx → (H₁.set nx (some (.gro e z cs))).get i = some o → ∃ b c', R i = some (b, c') ∧ b ≠ g ∧ ∃ o', H.get i = some o' := fun i o hne ho => by
      rw [Tr.get_set_ne _ _ hne] at ho
      obtain ⟨ho', hn⟩ := h1 i o ho
      obtain ⟨b, c', hr, hh⟩ := hR.at_ i o ho'
      refine ⟨b, c', hr, fun eb => ?_, o, ho'⟩
      rcases hob with h | h
      · exact hn b c' hr (by rw [h, eb])
      · have := hh.lt; omega
    by_cases e1 : id = nx
    · by_cases e2 : id' = nx
      · rw [e1, e2]
      · obtain ⟨b', c', hr, hne, _⟩ := old id' o₂ e2 g2
        subst e1; rw [upd_same] at r1; cases r1
        rw [upd_ne R _ e2, hr] at r2; cases r2
        exact absurd rfl hne
    · by_cases e2 : id' = nx
      · obtain ⟨b', c', hr, hne, _⟩ := old id o₁ e1 g1
        subst e2; rw [upd_same] at r2; cases r2
        rw [upd_ne R _ e1, hr] at r1; cases r1
        exact absurd rfl hne
      · obtain ⟨_, _, _, _, x1, q1⟩ := old id o₁ e1 g1
        obtain ⟨_, _, _, _, x2, q2⟩ := old id' o₂ e2 g2
        rw [upd_ne R _ e1] at r1; rw [upd_ne R _ e2] at r2
        exact hR.inj id id' x1 x2 b c₁ c₂ q1 q2 r1 r2
theorem ro_cells {R : Ren} {w : World} {b : Nat} : ∀ (l : List LV) (k : Nat), (∀ (i : Nat) (lv : LV), l[i]? = some lv → ∃ v, w.cell? ⟨b, k + i, none⟩ = some v ∧ VR R lv v) → ∃ us : List Value, VRL R l us ∧ ∀ (j : Nat) (u : Value), us[j]? = some u → w.cell? ⟨b, k + j, none⟩ = some u
  | [], k, _ => ⟨[], rfl, fun j u hu => by simp at hu⟩
  | x :: l, k, hx => by
    obtain ⟨v, h1, h2⟩ := hx 0 x rfl
    obtain ⟨us, h3, h4⟩ := ro_cells l (k + 1) fun i lv hi => by
      have := hx (i + 1) lv (by simpa using hi)
      rwa [show k + (i + 1) = k + 1 + i by omega] at this
    refine ⟨v :: us, VRL.cons h2 h3, fun j u hu => ?_⟩
    cases j with
    | zero => simp at hu; subst hu; exact h1
    | succ j =>
      have := h4 j u (by simpa using hu)
      rwa [show k + (j + 1) = k + 1 + j by omega]
theorem rd_ok {id off n b c : Nat} {vs : List LV} (hR : Rel R H w) (h : rd H id off n = some vs) (hr : R id = some (b, c)) :
    vs.length = n ∧ ∃ us, VRL R vs us ∧ ∀ (j : Nat) (u : Value), us[j]? = some u → w.cell? ((⟨b, off, none⟩ : Addr).add j) = some u := by
  unfold rd at h
  cases hg : H.get id with
  | none => simp [hg] at h
  | some o =>
    simp only [hg] at h
    cases hc : o.cs with
    | none =>
      simp only [hc] at h
      cases o <;> simp only at h <;> try cases h
      rename_i base cs
      cases hle : Nat.ble base off
      · simp [hle] at h
      · simp only [hle, cond_true] at h
        cases htk : tk n (dp (off - base) cs) with
        | none => simp [htk] at h
        | some rr =>
        cases hkn : allKn rr
        · simp [htk, hkn] at h
        simp [htk, hkn] at h; subst h
        obtain ⟨rfl, hl⟩ := tk_ok htk
        rw [dp_eq] at hl hkn ⊢
        obtain ⟨b', c', hr', hh⟩ := hR.at_ id _ hg
        rw [hr] at hr'; cases hr'
        have hle' : base ≤ off := by simpa using hle
        obtain ⟨us, h1, h2⟩ := ro_cells ((cs.drop (off - base)).take n) off (R := R) (w := w) (b := b) fun i lv hi => by
          rw [List.getElem?_take] at hi
          split at hi
          · rw [List.getElem?_drop] at hi
            have := hh.2 (off - base + i) lv hi (allKn_get (i := i) (x := lv) hkn (by rw [List.getElem?_take, if_pos (by assumption), List.getElem?_drop]; exact hi))
            rwa [show base + (off - base + i) = off + i by omega] at this
          · cases hi
        exact ⟨by simp at hl ⊢; omega, us, h1, fun j u hu => by rw [add_eq]; exact h2 j u hu⟩
    | some cs =>
      simp only [hc] at h
      obtain ⟨rfl, hl⟩ := tk_ok h
      rw [dp_eq] at hl ⊢
      obtain ⟨b', c', hr', hh⟩ := hR.at_ id o hg
      rw [hr] at hr'; cases hr'
      obtain ⟨cur, ty, hb, hv⟩ := hh.view hc
      refine ⟨by simp at hl ⊢; omega, _, (hv.drop off).take n, fun j u hu => ?_⟩
      rw [add_eq, cell_of_row w b (off + j) cur ty (0, 0) hb]
      rw [List.getElem?_take] at hu
      split at hu
      · rw [List.getElem?_drop, List.getElem?_take] at hu
        split at hu
        · simpa using hu
        · cases hu
      · cases hu
/-- What is to be appended. -/
theorem more_ok {z m : Nat} {x : LV} {vx : Value} {news : List LV} (hR : Rel R H w) (h : more H z x = some (m, news)) (hx : VR R x vx) :
    (m = 0 ∧ ∃ y c, vx = .slice y 0 c) ∨ ∃ (ad : Addr) (c : Nat) (us : List Value), vx = .slice (some ad) m c ∧ news.length = m * z ∧ VRL R news us ∧ ∀ (j : Nat) (u : Value), us[j]? = some u → w.cell? (ad.add j) = some u := by
  cases x <;> simp only [more] at h <;> try cases h
  case nils => exact .inl ⟨rfl, none, 0, hx⟩
  case sl id off len cap =>
    obtain ⟨b, c, hr, rfl⟩ := hx
    cases len with
    | zero => simp at h; exact .inl ⟨h.1.symm, _, _, rfl⟩
    | succ k =>
      cases hd : rd H id off ((k + 1) * z) with
      | none => simp [hd] at h
      | some cs =>
        simp [hd] at h
        obtain ⟨rfl, rfl⟩ := h
        obtain ⟨h1, us, h2, h3⟩ := rd_ok hR hd hr
        exact .inr ⟨_, _, us, rfl, h1, h2, h3⟩
  case gs id off el len =>
    obtain ⟨b, c, hr, _, rfl⟩ := hx
    cases len with
    | zero => simp at h; exact .inl ⟨h.1.symm, _, _, rfl⟩
    | succ k =>
      cases hd : rd H id off ((k + 1) * z) with
      | none => simp [hd] at h
      | some cs =>
        simp [hd] at h
        obtain ⟨rfl, rfl⟩ := h
        obtain ⟨h1, us, h2, h3⟩ := rd_ok hR hd hr
        exact .inr ⟨_, _, us, rfl, h1, h2, h3⟩
theorem fits_ok {n bytes : Nat} (h : fits n bytes = true) : n * bytes ≤ 140737488355328 ∧ n ≤ 1000000 := by
  simp only [fits, Bool.and_eq_true] at h
  exact ⟨by simpa using h.1, by simpa using h.2⟩
theorem run_append_zero {t ty e : TypeId} {i : TypeInfo} (hu : P.underlying t = some (.slice e)) (hi : P.info? e = some i) (base y : Option Addr) (len cap c : Nat) (hle : len ≤ cap) (w : World) :
    (Builtin.append_ #[t, t] ty #[.slice base len cap, .slice y 0 c]).run P w = .ok (.slice base len cap) w := by
  have h1 : ∀ z, (Builtin.firstCells z 0 (.slice y 0 c)).run P w = .ok #[] w := fun z => by
    cases y <;> simp [Builtin.firstCells, loadCells, loadCellsFrom]
  cases base <;> simp [Builtin.append_, run_underlying hu, sizeOf, typeInfo, hi, Builtin.lenOf, hle, h1, storeCells]
theorem VRL_of_le {cs news : List LV} {xs us : List Value} (h1 : VRL R cs xs) (h2 : VRL R news us) : VRL R (ap cs news) (xs ++ us) := by rw [ap_eq]; exact h1.append h2
theorem own_take {w : World} {b c n k t z : Nat} {xs : List Value} (h : w.ownsRow 0 t z (.slice (some ⟨b, 0, none⟩) n c) n xs) (hk : k ≤ n) : w.ownsRow 0 t z (.slice (some ⟨b, 0, none⟩) k c) k (xs.take (k * z)) := by
  obtain ⟨cur, h0, h1, h2, h3, h4⟩ := own_block h
  have hm : k * z ≤ n * z := Nat.mul_le_mul_right _ hk
  have hl := h.1
  exact ⟨by simp; omega, .inr ⟨b, c, cur, rfl, Nat.zero_le _, h0, by omega, h2, h3, by rw [← h4, List.take_take]; congr 1; omega⟩⟩
theorem run_append_new {t ty e : TypeId} {i : TypeInfo} {zv : Value} {z : Nat} (hu : P.underlying t = some (.slice e)) (hi : P.info? e = some i) (hz : i.zero = some zv) (hs : i.size = z) (hzs : zv.cells.size = z)
    (b ad : Addr) (m c : Nat) (us : List Value) (hl : us.length = m * z) (hnews : ∀ (j : Nat) (u : Value), us[j]? = some u → w.cell? (ad.add j) = some u) (hm : 0 < m) (hf : fits m i.bytes = true) :
    ∃ cap w', (Builtin.append_ #[t, t] ty #[.slice (some b) 0 0, .slice (some ad) m c]).run P w = .ok (.slice (some ⟨w.heap.size, 0, none⟩) m cap) w' ∧
      w'.ownsRow 0 e z (.slice (some ⟨w.heap.size, 0, none⟩) m cap) m us ∧ w.grownBy w' none := by
  obtain ⟨f1, f2⟩ := fits_ok hf
  have hnc : Builtin.nextslicecap (0 + m) 0 * i.bytes ≤ 281474976710656 := by
    have : Builtin.nextslicecap (0 + m) 0 = m := by unfold Builtin.nextslicecap; rw [if_pos (by omega)]; omega
    rw [this]; omega
  have h := run_append_grow (P := P) w t ty e i zv hu hi hz b 0 0 [] (by simp) (fun j v hv => by simp at hv) ad m c us (by rw [hs]; exact hl) hnews (by omega) (by omega) hnc
  rw [Nat.zero_add] at h
  have hge := grownCap_ge w m 0 e
  refine ⟨_, _, h, ⟨hl, .inr ⟨w.heap.size, _, _, rfl, Nat.zero_le _, by exact heap_alloc_new w.drew _, hge, grownCap_le_maxLen w m 0 e (by unfold maxLen; omega), ?_, ?_⟩⟩, ?_⟩
  · simp [size_zeroCells, hl, hzs]
    rw [← Nat.add_mul]; congr 1; omega
  · simp [← hl]
  · exact ⟨rfl, rfl, rfl, by show w.heap.size ≤ (w.heap.push _).size; rw [Array.size_push]; exact Nat.le_succ _, fun k hk _ => by exact heap_alloc_old w.drew _ k hk⟩
/-- A row that is full is copied. -/
theorem run_append_full {t ty e : TypeId} {i : TypeInfo} {zv : Value} {z : Nat} (hu : P.underlying t = some (.slice e)) (hi : P.info? e = some i) (hz : i.zero = some zv) (hs : i.size = z) (hzs : zv.cells.size = z)
    (b n : Nat) (olds : List Value) (hlo : olds.length = n * z) (holds : ∀ (j : Nat) (u : Value), olds[j]? = some u → w.cell? ((⟨b, 0, none⟩ : Addr).add j) = some u)
    (ad : Addr) (m c : Nat) (us : List Value) (hl : us.length = m * z) (hnews : ∀ (j : Nat) (u : Value), us[j]? = some u → w.cell? (ad.add j) = some u) (hm : 0 < m) (hf : fits (n + m) i.bytes = true) :
    ∃ cap w', (Builtin.append_ #[t, t] ty #[.slice (some ⟨b, 0, none⟩) n n, .slice (some ad) m c]).run P w = .ok (.slice (some ⟨w.heap.size, 0, none⟩) (n + m) cap) w' ∧
      w'.ownsRow 0 e z (.slice (some ⟨w.heap.size, 0, none⟩) (n + m) cap) (n + m) (olds ++ us) ∧ w.grownBy w' none := by
  obtain ⟨f1, f2⟩ := fits_ok hf
  have hnc : Builtin.nextslicecap (n + m) n * i.bytes ≤ 281474976710656 := by
    have h1 : Builtin.nextslicecap (n + m) n * i.bytes ≤ 2 * (n + m) * i.bytes := Nat.mul_le_mul_right _ (nextslicecap_le (by omega))
    rw [Nat.mul_assoc] at h1
    omega
  have h := run_append_grow (P := P) w t ty e i zv hu hi hz ⟨b, 0, none⟩ n n olds (by rw [hs]; exact hlo) holds ad m c us (by rw [hs]; exact hl) hnews (by omega) (by omega) hnc
  have hge := grownCap_ge w (n + m) n e
  have e0 : n * z + m * z = (n + m) * z := (Nat.add_mul ..).symm
  refine ⟨_, _, h, ⟨by rw [List.length_append, hlo, hl, e0], .inr ⟨w.heap.size, _, _, rfl, Nat.zero_le _, by exact heap_alloc_new w.drew _, hge, grownCap_le_maxLen w (n + m) n e (by unfold maxLen; omega), ?_, ?_⟩⟩, ?_⟩
  · simp [size_zeroCells, hl, hlo, hzs]
    rw [e0, ← Nat.add_mul]; congr 1; omega
  · rw [show ∀ X : Array Value, (olds.toArray ++ us.toArray ++ X).toList = (olds ++ us) ++ X.toList from fun X => by simp, ← e0, ← hlo, ← hl, ← List.length_append, List.take_left]
  · exact ⟨rfl, rfl, rfl, by show w.heap.size ≤ (w.heap.push _).size; rw [Array.size_push]; exact Nat.le_succ _, fun k hk _ => by exact heap_alloc_old w.drew _ k hk⟩
theorem kill_ok {id b c : Nat} {o : LO} (hR : Rel R H w) (hid : H.get id = some o) (hr : R id = some (b, c)) : ∀ id' o', (H.set id none).get id' = some o' → H.get id' = some o' ∧ ∀ b' c', R id' = some (b', c') → some b' ≠ some b := fun id' o' h => by
  by_cases e : id' = id
  · subst e; rw [Tr.get_set_same] at h; cases h
  · rw [Tr.get_set_ne _ _ e] at h
    refine ⟨h, fun b' c' hr' eb => e ?_⟩
    cases eb
    exact hR.inj id' id o' o b c' c h hid hr' hr
theorem grow_eq (H : Hp) (nx id : Nat) (e : TypeId) (z n : Nat) (cs : List LV) : grow H nx id e z n cs = some ⟨.gs nx 0 0 n, (H.set id none).set nx (some (.gro e z cs)), nx + 1, [id]⟩ := by
  simp [grow, Tr.force_eq, nN_eq, fresh_eq]
theorem append_owned {t ty e : TypeId} {i : TypeInfo} {zv : Value} {z : Nat} (hu : P.underlying t = some (.slice e)) (hi : P.info? e = some i) (hz : i.zero = some zv) (hs : i.size = z) (hzs : zv.cells.size = z) (h0 : 0 < z)
    {v : Value} {n : Nat} {xs : List Value} (hown : w.ownsRow 0 e z v n xs) {ad : Addr} {m c : Nat} {us : List Value} (hl : us.length = m * z) (hnews : ∀ (j : Nat) (u : Value), us[j]? = some u → w.cell? (ad.add j) = some u) (h1 : ∀ u ∈ us, u.oneCell' = true)
    (hm : 0 < m) (hf : fits (n + m) i.bytes = true) :
    ∃ g cap w', (Builtin.append_ #[t, t] ty #[v, .slice (some ad) m c]).run P w = .ok (.slice (some ⟨g, 0, none⟩) (n + m) cap) w' ∧ w'.ownsRow 0 e z (.slice (some ⟨g, 0, none⟩) (n + m) cap) (n + m) (xs ++ us) ∧ w.grownBy w' v.ownBlock ∧ (v.ownBlock = some g ∨ g = w.heap.size) := by
  obtain ⟨f1, f2⟩ := fits_ok hf
  obtain ⟨g, cap, w', h2, h3, h4, h5, _⟩ := run_append_lies (P := P) w t ty 0 e i zv z i.bytes hu hi hz hs rfl hzs h0 v n xs hown ad m c us hl hnews h1 hm (by unfold maxLen; omega) f1 (Nat.zero_le _) w.heap.size rfl
  exact ⟨g, cap, w', h2, h3, h4, h5⟩
theorem evAppend_ok (hR : Rel R H w) {t ty : TypeId} {s x : LV} {vs vx : Value} {r : Out} (hf : Free R nx r.nx) (h : evAppend P t s x H nx = some r) (hvs : VR R s vs) (hvx : VR R x vx) :
    ∃ v w', (Builtin.append_ #[t, t] ty #[vs, vx]).run P w = .ok v w' ∧ Did R nx r w w' v := by
  unfold evAppend at h
  cases hu : P.underlying t with
  | none => simp [hu] at h
  | some d =>
    cases d <;> simp only [hu] at h <;> try cases h
    rename_i e
    cases hi : P.info? e with
    | none => simp [hi] at h
    | some i =>
      simp only [hi] at h
      cases hz : i.zero with
      | none => simp [hz] at h
      | some zv =>
        simp only [hz, nN_eq] at h
        cases hb : (Nat.beq zv.cells.size i.size && Nat.blt 0 i.size)
        · simp [hb] at h
        · simp only [hb, cond_true] at h
          simp only [Bool.and_eq_true, beq_iff] at hb
          obtain ⟨hzs, h0⟩ := hb
          have h0 : 0 < i.size := by simpa using h0
          cases hm : more H i.size x with
          | none => simp [hm] at h
          | some q =>
            obtain ⟨m, news⟩ := q
            simp only [hm] at h
            cases m with
            | zero =>
              simp only at h
              have hx0 : ∃ y c, vx = .slice y 0 c := by
                rcases more_ok hR hm hvx with ⟨_, hh⟩ | ⟨ad, c, us, e1, _⟩
                · exact hh
                · exact ⟨_, _, e1⟩
              obtain ⟨y, c, rfl⟩ := hx0
              cases s <;> simp only [appNone] at h <;> try cases h
              case nils.refl =>
                rw [show vs = .slice none 0 0 from hvs]
                exact ⟨_, w, run_append_zero hu hi none y 0 0 c (Nat.le_refl _) w, did_same hR rfl⟩
              case gs.refl id off el len =>
                obtain ⟨b, cc, hr, hle, rfl⟩ := hvs
                exact ⟨_, w, run_append_zero hu hi _ y _ _ c (by omega) w, did_same hR ⟨b, cc, hr, hle, rfl⟩⟩
              case sl id off len cap =>
                cases hlc : Nat.ble len cap
                · simp [hlc] at h
                · simp [hlc] at h; subst h
                  obtain ⟨b, cc, hr, rfl⟩ := hvs
                  exact ⟨_, w, run_append_zero hu hi _ y _ _ c (by simpa using hlc) w, did_same hR ⟨b, cc, hr, rfl⟩⟩
            | succ k =>
              simp only at h
              cases h1 : allOne news
              · simp [h1] at h
              · simp only [h1, cond_true] at h
                rcases more_ok hR hm hvx with ⟨hk, _⟩ | ⟨ad, c, us, rfl, hl, hnu, hcell⟩
                · cases hk
                have hone := hnu.one h1
                have hlu : us.length = (k + 1) * i.size := by rw [hnu.length, hl]
                unfold appSome at h
                split at h
                · -- nil
                  unfold appNew at h
                  cases hft : fits (k + 1) i.bytes
                  · simp [hft] at h
                  · simp only [hft, cond_true, fresh_eq, Option.some.injEq] at h; subst h
                    rw [show vs = .slice none 0 0 from hvs]
                    obtain ⟨g, cap, w', hr, h3, h4, h5⟩ := append_owned (ty := ty) hu hi hz rfl hzs h0 (World.ownsRow_nil w 0 e i.size) hlu hcell hone (by omega) (by simpa using hft)
                    rw [Nat.zero_add] at hr h3
                    refine ⟨_, w', hr, did_grown hR (hf nx (Nat.le_refl _) (Nat.lt_succ_self _)) h3 (by simpa using hnu) h4 (by simpa [Value.ownBlock] using h5) (fun id o ho => ⟨ho, fun b c' _ => by simp [Value.ownBlock]⟩) (fun b hb => by simp [Value.ownBlock] at hb)⟩
                · unfold appNew at h
                  rename_i id off
                  cases hft : fits (k + 1) i.bytes
                  · simp [hft] at h
                  · simp only [hft, cond_true, fresh_eq, Option.some.injEq] at h; subst h
                    obtain ⟨b, cc, hr0, rfl⟩ := hvs
                    obtain ⟨cap, w', hr, h3, h4⟩ := run_append_new (ty := ty) hu hi hz rfl hzs ⟨b, off, none⟩ ad (k + 1) c us hlu hcell (by omega) hft
                    exact ⟨_, w', hr, did_grown hR (hf nx (Nat.le_refl _) (Nat.lt_succ_self _)) h3 hnu h4 (.inr rfl) (fun id o ho => ⟨ho, fun b c' _ => by simp⟩) (fun b hb => by cases hb)⟩
                · -- a row that may grow
                  rename_i id len
                  unfold appGs at h
                  cases hg : H.get id with
                  | none => simp [hg] at h
                  | some o =>
                    cases o <;> simp only [hg] at h <;> try cases h
                    rename_i e' z' cs
                    cases hb : (Nat.beq e' e && Nat.beq z' i.size && Nat.blt id nx && fits (len + (k + 1)) i.bytes)
                    · simp [hb] at h
                    · simp only [hb, cond_true] at h
                      simp only [Bool.and_eq_true, beq_iff] at hb
                      obtain ⟨⟨⟨rfl, rfl⟩, h2⟩, hft⟩ := hb
                      have h2 : id < nx := by simpa using h2
                      cases htk : tk (len * i.size) cs with
                      | none => simp [htk] at h
                      | some olds =>
                        simp only [htk, grow_eq, Option.some.injEq] at h; subst h
                        obtain ⟨rfl, hle⟩ := tk_ok htk
                        obtain ⟨b, cc, hr0, hle0, rfl⟩ := hvs
                        obtain ⟨b', c', hr', n, xs, hown, hcx⟩ := hR.at_ id _ hg
                        rw [hr0] at hr'; cases hr'
                        have hxl : xs.length = n * i.size := hown.1
                        have hln : len ≤ n := by
                          rw [← hcx.length, hxl] at hle
                          exact Nat.le_of_mul_le_mul_right hle h0
                        have hown' := own_take hown hln
                        obtain ⟨g, cap, w', hr, h3, h4, h5⟩ := append_owned (ty := ty) hu hi hz rfl hzs h0 hown' hlu hcell hone (by omega) hft
                        refine ⟨_, w', hr, did_grown hR (hf nx (Nat.le_refl _) (Nat.lt_succ_self _)) h3 (VRL_of_le (hcx.take _) hnu) h4 (by simpa [Value.ownBlock] using h5) (by simpa [Value.ownBlock] using kill_ok hR hg hr0) (fun b' hb' => ⟨id, by simp, h2, cc, by simp [Value.ownBlock] at hb'; rw [← hb']; exact hr0⟩)⟩
                · -- a row whose capacity is known
                  rename_i id len cap' _
                  unfold appSl at h
                  cases hg : H.get id with
                  | none => simp [hg] at h
                  | some o =>
                    cases o <;> simp only [hg] at h <;> try cases h
                    rename_i e' cs
                    cases hb : (Nat.beq e' e && Nat.blt id nx && Nat.beq cs.length (cap' * i.size) && Nat.ble len cap' && Nat.ble cap' 1000000 && fits (len + (k + 1)) i.bytes)
                    · simp [hb] at h
                    · simp only [hb, cond_true] at h
                      simp only [Bool.and_eq_true, beq_iff] at hb
                      obtain ⟨⟨⟨⟨⟨rfl, h2⟩, h6⟩, h7⟩, h8⟩, hft⟩ := hb
                      have h2 : id < nx := by simpa using h2
                      have h7 : len ≤ cap' := by simpa using h7
                      have h8 : cap' ≤ 1000000 := by simpa using h8
                      cases htk : tk (len * i.size) cs with
                      | none => simp [htk] at h
                      | some olds =>
                        simp only [htk] at h
                        obtain ⟨rfl, hle⟩ := tk_ok htk
                        obtain ⟨b, cc, hr0, rfl⟩ := hvs
                        obtain ⟨b', c', hr', cur, hbk, hcx⟩ := hR.at_ id _ hg
                        rw [hr0] at hr'; cases hr'
                        have hcl : cur.size = cap' * i.size := by rw [← h6, ← hcx.length]; simp
                        have hm2 : len * i.size ≤ cap' * i.size := Nat.mul_le_mul_right _ h7
                        cases hfull : Nat.beq len cap' with
                        | true =>
                          obtain rfl : len = cap' := (beq_iff _ _).1 hfull
                          simp only [hfull, nN_eq, appNew, hft, cond_true, fresh_eq, Option.some.injEq] at h; subst h
                          obtain ⟨cap, w', hr, h3, h4⟩ := run_append_full (ty := ty) hu hi hz rfl hzs b len (cur.toList.take (len * i.size)) (by simp; omega) (fun j u hj => by
                            rw [add_eq, cell_of_row w b (0 + j) cur e' (0, 0) hbk]
                            rw [List.getElem?_take] at hj
                            split at hj
                            · simpa using hj
                            · cases hj) ad (k + 1) c us hlu hcell (by omega) hft
                          exact ⟨_, w', hr, did_grown hR (hf nx (Nat.le_refl _) (Nat.lt_succ_self _)) h3 (VRL_of_le (hcx.take _) hnu) h4 (.inr rfl) (fun id o ho => ⟨ho, fun b c' _ => by simp⟩) (fun b hb => by cases hb)⟩
                        | false =>
                          simp only [hfull, grow_eq, Option.some.injEq] at h; subst h
                          have hown' : w.ownsRow 0 e' i.size (.slice (some ⟨b, 0, none⟩) len cap') len (cur.toList.take (len * i.size)) :=
                            ⟨by simp; omega, .inr ⟨b, cap', cur, rfl, Nat.zero_le _, hbk, h7, by unfold maxLen; omega, hcl, rfl⟩⟩
                          obtain ⟨g, cap, w', hr, h3, h4, h5⟩ := append_owned (ty := ty) hu hi hz rfl hzs h0 hown' hlu hcell hone (by omega) hft
                          refine ⟨_, w', hr, did_grown hR (hf nx (Nat.le_refl _) (Nat.lt_succ_self _)) h3 (VRL_of_le (hcx.take _) hnu) h4 (by simpa [Value.ownBlock] using h5) (by simpa [Value.ownBlock] using kill_ok hR hg hr0) (fun b' hb' => ⟨id, by simp, h2, cc, by simp [Value.ownBlock] at hb'; rw [← hb']; exact hr0⟩)⟩
                · cases h

/-! ### The other builtins -/
theorem foldI_ok {f : Int → Int → Int} {g : Value → Value → Sem Value} {k : IntKind} (hg : ∀ (x y : Int) (w : World), (g (.int k x) (.int k y)).run P w = .ok (.int k (f x y)) w) :
    ∀ {l : List LV} {vs : List Value} {x : Int} {lv : LV}, foldI f k x l = some lv → VRL R l vs → ∃ v, VR R lv v ∧ ∀ w, (vs.foldlM g (.int k x)).run P w = .ok v w
  | [], vs, x, lv, h, hv => by
    simp [foldI] at h; subst h
    rw [show vs = [] from hv]
    exact ⟨.int k x, rfl, fun w => by simp⟩
  | y :: l, vs, x, lv, h, hv => by
    obtain ⟨u, r, rfl, hu, hr⟩ := hv
    cases y <;> simp only [foldI] at h <;> try cases h
    rename_i k' n
    cases hk : decide (k = k')
    · simp [hk] at h
    · have hk := of_decide_eq_true hk
      subst hk
      simp [nI_eq] at h
      obtain ⟨v, hv, hrun⟩ := foldI_ok hg h hr
      rw [show u = .int k n from hu]
      exact ⟨v, hv, fun w => by simp [List.foldlM_cons, hg, hrun]⟩
theorem minL_eq (x y : Int) : minL x y = if y < x then y else x := by
  unfold minL
  by_cases h : y < x <;> simp [h]
theorem maxL_eq (x y : Int) : maxL x y = if y > x then y else x := by
  unfold maxL
  by_cases h : y > x <;> simp [h]
theorem lenL_ok {lv : LV} {v : Value} {n : Nat} (h : lenL lv = some n) (hv : VR R lv v) : ∃ base cap, v = .slice base n cap := by
  cases lv <;> simp only [lenL] at h <;> try cases h
  case nils.refl => exact ⟨none, 0, hv⟩
  case sl.refl id off cap => obtain ⟨b, c, _, rfl⟩ := hv; exact ⟨_, _, rfl⟩
  case gs.refl id off el => obtain ⟨b, c, _, _, rfl⟩ := hv; exact ⟨_, _, rfl⟩
theorem firstOf_ok {z n : Nat} {lv : LV} {v : Value} {vs : List LV} (hR : Rel R H w) (h : firstOf H z n lv = some vs) (hv : VR R lv v) : ∃ us, VRL R vs us ∧ (Builtin.firstCells z n v).run P w = .ok us.toArray w := by
  cases lv <;> simp only [firstOf] at h <;> try cases h
  case sl id off len cap =>
    obtain ⟨b, c, hr, rfl⟩ := hv
    obtain ⟨h1, us, h2, h3⟩ := rd_ok hR h hr
    exact ⟨us, h2, run_firstCells_some w z n _ _ _ us (by rw [h2.length, h1]) h3⟩
  case gs id off el len =>
    obtain ⟨b, c, hr, _, rfl⟩ := hv
    obtain ⟨h1, us, h2, h3⟩ := rd_ok hR h hr
    exact ⟨us, h2, run_firstCells_some w z n _ _ _ us (by rw [h2.length, h1]) h3⟩
theorem spotOf_ok {lv : LV} {v : Value} {id off : Nat} (h : spotOf lv = some (id, off)) (hv : VR R lv v) : ∃ b c len cap, R id = some (b, c) ∧ v = .slice (some ⟨b, off, none⟩) len cap := by
  cases lv <;> simp [spotOf] at h
  case sl i o len cap => obtain ⟨rfl, rfl⟩ := h; obtain ⟨b, c, hr, rfl⟩ := hv; exact ⟨b, c, _, _, hr, rfl⟩
  case gs i o el len => obtain ⟨rfl, rfl⟩ := h; obtain ⟨b, c, hr, _, rfl⟩ := hv; exact ⟨b, c, _, _, hr, rfl⟩
theorem evCopy_ok (hR : Rel R H w) {t ty : TypeId} {ts : Array TypeId} {d s : LV} {vd vs : Value} {r : Out} (hts : ts[0]? = some t) (h : evCopy P t d s H nx = some r) (hvd : VR R d vd) (hvs : VR R s vs) :
    ∃ v w', (Builtin.copy_ ts ty #[vd, vs]).run P w = .ok v w' ∧ Did R nx r w w' v := by
  unfold evCopy at h
  cases hu : P.underlying t with
  | none => simp [hu] at h
  | some de =>
    cases de <;> simp only [hu] at h <;> try cases h
    rename_i e
    cases hz : szOf P e with
    | none => simp [hz] at h
    | some z =>
      cases hl1 : lenL d with
      | none => simp [hz, hl1] at h
      | some dl =>
        cases hl2 : lenL s with
        | none => simp [hz, hl1, hl2] at h
        | some sl =>
          simp only [hz, hl1, hl2, nN_eq] at h
          obtain ⟨db, dc, rfl⟩ := lenL_ok hl1 hvd
          obtain ⟨sb, sc, rfl⟩ := lenL_ok hl2 hvs
          split at h
          · rename_i hn
            have hn' : Nat.min sl dl = 0 := hn
            have hd' : Did R nx ⟨.i .i64 0, H, nx, []⟩ w w (goInt 0) := did_same hR rfl
            have hr' : r = ⟨.i .i64 0, H, nx, []⟩ := by
              split at h <;> first | (cases h; done) | (cases h; rfl)
            subst hr'
            refine ⟨_, w, ?_, hd'⟩
            have hf : (Builtin.firstCells z 0 (.slice sb sl sc)).run P w = .ok #[] w := by cases sb <;> simp [Builtin.firstCells, loadCells, loadCellsFrom]
            cases db <;> simp [Builtin.copy_, hts, run_underlying hu, Builtin.lenOf, hn', run_sizeOf' hz, hf, storeCells]
          · rename_i hn
            cases hsp : spotOf d with
            | none => simp [hsp] at h
            | some q =>
              obtain ⟨id, off⟩ := q
              cases hfc : firstOf H z (Nat.min sl dl) s with
              | none => simp [hsp, hfc] at h
              | some vs' =>
                simp only [hsp, hfc] at h
                cases hb : (allOne vs' && Nat.blt id nx)
                · simp [hb] at h
                · simp only [hb, cond_true] at h
                  simp only [Bool.and_eq_true] at hb
                  cases hw : wrt H id off vs' with
                  | none => simp [hw] at h
                  | some H' =>
                    simp [hw] at h; subst h
                    obtain ⟨us, hus, hrun⟩ := firstOf_ok (P := P) hR hfc hvs
                    obtain ⟨b, c, len, cap, hr, hve⟩ := spotOf_ok hsp hvd
                    cases hve
                    obtain ⟨w', hst, hd⟩ := store_ok (P := P) (lv := .i .i64 (Nat.min sl dl : Nat)) (v := goInt (Nat.min sl dl : Nat)) hR hw hr (by simpa using hb.2) hus hb.1 rfl
                    exact ⟨_, w', by simp [Builtin.copy_, hts, run_underlying hu, Builtin.lenOf, run_sizeOf' hz, hrun, hst], hd⟩
end Go.Rx

set_option linter.unusedSimpArgs false
set_option linter.unusedVariables false
set_option linter.unusedSectionVars false
namespace Go.Rx
open Go
variable {P : Program} {R : Ren} {N : Nat} {T : Tr LV} {a : Act} {H : Hp} {w : World} {nx : Nat}

theorem evBuiltin_ok (hR : Rel R H w) {b : Builtin} {ts : List TypeId} {args : List LV} {r : Out} (hf : Free R nx r.nx) (h : evBuiltin P b ts args H nx = some r) {vs : List Value} (hv : VRL R args vs) (ty : TypeId) (consts : Array Bool) :
    ∃ v w', (builtin b ts.toArray ty consts vs.toArray).run P w = .ok (.value v) w' ∧ Did R nx r w w' v := by
  unfold evBuiltin at h
  split at h
  · rename_i t u s x
    cases hb : Nat.beq t u
    · simp [hb] at h
    · simp only [hb, cond_true] at h
      have := (beq_iff _ _).1 hb
      subst this
      obtain ⟨v1, r1, rfl, h1, h2⟩ := hv
      obtain ⟨v2, r2, rfl, h3, h4⟩ := h2
      rw [show r2 = [] from h4]
      obtain ⟨v, w', hrun, hd⟩ := evAppend_ok (ty := ty) hR hf h h1 h3
      exact ⟨v, w', by simp [builtin, hrun], hd⟩
  · rename_i t x
    obtain ⟨v1, r1, rfl, h1, h2⟩ := hv
    rw [show r1 = [] from h2]
    cases hu : P.underlying t with
    | none => simp [hu] at h
    | some d =>
      cases d <;> simp only [hu] at h <;> try cases h
      case slice e =>
        cases x <;> simp only at h <;> try cases h
        case nils =>
          rw [show v1 = .slice none 0 0 from h1]
          exact ⟨_, w, by simp [builtin, Builtin.len_, run_underlying hu, goInt], did_same hR rfl⟩
        case sl id off len cap =>
          obtain ⟨b, c, hr, rfl⟩ := h1
          exact ⟨_, w, by simp [builtin, Builtin.len_, run_underlying hu, goInt], did_same hR rfl⟩
        case gs id off el len =>
          obtain ⟨b, c, hr, _, rfl⟩ := h1
          exact ⟨_, w, by simp [builtin, Builtin.len_, run_underlying hu, goInt], did_same hR rfl⟩
      case array.refl n e =>
        refine ⟨.int .i64 (n : Int), w, by simp [builtin, Builtin.len_, run_underlying hu, goInt], ?_⟩
        exact did_same hR rfl
  · rename_i t tl d s
    obtain ⟨v1, r1, rfl, h1, h2⟩ := hv
    obtain ⟨v2, r2, rfl, h3, h4⟩ := h2
    rw [show r2 = [] from h4]
    obtain ⟨v, w', hrun, hd⟩ := evCopy_ok (P := P) (ty := ty) (ts := (t :: tl).toArray) hR (by simp) h h1 h3
    exact ⟨v, w', by simp [builtin, hrun], hd⟩
  · rename_i k x l
    obtain ⟨v1, r1, rfl, h1, h2⟩ := hv
    rw [show v1 = .int k x from h1]
    cases hfo : foldI minL k x l with
    | none => simp [hfo] at h
    | some lv =>
      simp [hfo] at h; subst h
      obtain ⟨v, hvr, hrun⟩ := foldI_ok (P := P) (g := Builtin.min2) (fun x y w => by simp [Builtin.min2, minL_eq]) hfo h2
      exact ⟨v, w, by simp [builtin, Builtin.min_, hrun], did_same hR hvr⟩
  · rename_i k x l
    obtain ⟨v1, r1, rfl, h1, h2⟩ := hv
    rw [show v1 = .int k x from h1]
    cases hfo : foldI maxL k x l with
    | none => simp [hfo] at h
    | some lv =>
      simp [hfo] at h; subst h
      obtain ⟨v, hvr, hrun⟩ := foldI_ok (P := P) (g := Builtin.max2) (fun x y w => by simp [Builtin.max2, maxL_eq]) hfo h2
      exact ⟨v, w, by simp [builtin, Builtin.max_, hrun], did_same hR hvr⟩
  · cases h

/-! ### Calls -/
/-- Every function, no bound on the depth; in a round, or not. -/
def Fw (ro : Option Nat) : Fence := { Fence.wide with round := ro }
/-- A call, or a round, comes to its end as is said. -/
def Runs (P : Program) : Tg → Ren → Array Value → World → (Ending → World → Prop) → Prop
  | .f g, _, args, w, Q => (∀ (args : Array Value) (w : World), (callFunc g args).run P w = .ok (.enter g args) w) ∧ ∀ n, CallsIn (Fw none) n P g args w Q
  | .r id, R, args, w, Q => ∀ b c, R id = some (b, c) → ∃ (fn : FuncId) (tmps : Array Value) (as body : Code), (Instr.yield b args).run P w = .ok (.round b fn tmps as body) w ∧ ∀ n, RoundIn (Fw none) n P b fn tmps as body w Q
def CallOK (P : Program) (call : CallT) : Prop :=
  ∀ (tg : Tg) (args : List LV) (H : Hp) (nx : Nat) (r : Res), call tg args H nx = some r → ∀ (R : Ren) (w : World) (vs : List Value), Rel R H w → VRL R args vs → Free R nx r.mx →
    Runs P tg R vs.toArray w fun e w' => ∃ v, e = .returned v ∧ Did R nx r.o w w' v
theorem res_some {x : Option Out} {r : Res} (h : res x = some r) : x = some r.o ∧ r.mx = r.o.nx := by
  cases x with
  | none => cases h
  | some o => simp only [res, Option.some.injEq] at h; subst h; exact ⟨rfl, rfl⟩
theorem wp_of_ran {ro : Option Nat} {n : Nat} {o : Oper} {r : Out} (hd : ∀ c, o.op ≠ .defer c) (h : Ran P R nx a o r w) {K : Act → World → Prop} {Q : Exit → Act → World → Prop} (hK : ∀ v w', Did R nx r w w' v → K (a.put o.dst v) w') : o.wpIn (Fw ro) n P a w K Q := by
  obtain ⟨v, w', hdid, hrun⟩ := h
  refine ⟨fun _ _ => trivial, ?_⟩
  rw [Oper.semAt_eq _ _ _ hd]
  rcases hrun with hrun | ⟨hrun, rfl⟩
  · rw [hrun]; exact hK v w' hdid
  · rw [hrun]; exact hK _ w' hdid
theorem evOp_ok {call : CallT} (hcall : CallOK P call) (hF : FR R N T a.tmps) (hR : Rel R H w) {ro : Option Nat} {n : Nat} {o : Oper} {r : Res} (hf : Free R nx r.mx) (h : evOp P call T H nx o.op = some r)
    {K : Act → World → Prop} {Q : Exit → Act → World → Prop} (hK : ∀ v w', Did R nx r.o w w' v → K (a.put o.dst v) w') : o.wpIn (Fw ro) n P a w K Q := by
  obtain ⟨dst, op, ty, pos, after, guard⟩ := o
  simp only at h hK
  cases op <;> (try simp only [evOp] at h)
  case load t x => obtain ⟨h1, h2⟩ := res_some h; exact wp_of_ran (by simp) (evLoad_ok hF hR rfl h1) hK
  case store t x y => obtain ⟨h1, h2⟩ := res_some h; exact wp_of_ran (by simp) (evStore_ok hF hR rfl h1) hK
  case alloc t => obtain ⟨h1, h2⟩ := res_some h; exact wp_of_ran (by simp) (evAlloc_ok hR (by rw [← h2]; exact hf) rfl h1) hK
  case box t x => obtain ⟨h1, h2⟩ := res_some h; exact wp_of_ran (by simp) (evBox_ok hF hR (by rw [← h2]; exact hf) rfl h1) hK
  case buildSlice t len ps => obtain ⟨h1, h2⟩ := res_some h; exact wp_of_ran (by simp) (evBuildSl_ok hF hR (by rw [← h2]; exact hf) rfl h1) hK
  case makeSlice t l c => obtain ⟨h1, h2⟩ := res_some h; exact wp_of_ran (by simp) (evMakeSl_ok hF hR (by rw [← h2]; exact hf) rfl h1) hK
  case call c =>
    unfold evCallee at h
    obtain ⟨callee, args, ts⟩ := c
    cases callee with
    | invoke x m => cases h
    | builtin b =>
      simp only at h
      cases ha : evOs T args.toList with
      | none => simp [ha] at h
      | some l =>
        simp only [ha] at h
        obtain ⟨h1, h2⟩ := res_some h
        obtain ⟨v, w', hrun, hd⟩ := evBuiltin_ok (P := P) hR (by rw [← h2]; exact hf) h1 (evOs_ok hF ha) ty (args.map fun | .const _ => true | _ => false)
        refine wp_of_ran (by simp) ⟨v, w', hd, .inl ?_⟩ hK
        have e1 : ts.toList.toArray = ts := by simp
        have e2 : (args.toList.map a.eval).toArray = args.map a.eval := by apply Array.toList_inj.1; simp
        rw [e1, e2] at hrun
        simp only [execOp, resolve, Sem.run_bind, Sem.run_pure, Result.andThen_ok, invoke]
        exact hrun
    | value f =>
      simp only at h
      cases ha : evOs T args.toList with
      | none => simp [ha] at h
      | some l =>
        cases hfv : evO T f with
        | none => simp [ha, hfv, callAt] at h
        | some vf =>
          have hvf := evO_ok hF hfv
          have hvl := evOs_ok hF ha
          have e2 : (args.toList.map a.eval).toArray = args.map a.eval := by apply Array.toList_inj.1; simp
          refine ⟨fun _ _ => trivial, ?_⟩
          rw [Oper.semAt_eq _ _ _ (by simp)]
          simp only [ha, hfv] at h
          cases vf <;> try (cases h; done)
          case fn g fi ca =>
            cases g <;> try (cases h; done)
            rename_i g
            simp only [callAt] at h
            obtain ⟨fi', ca', e, h1, h2⟩ := hvf
            have hv : VRL R (ap fi (ap l ca)) (fi'.toList ++ (args.toList.map a.eval ++ ca'.toList)) := by
              rw [ap_eq, ap_eq]; exact h1.append (hvl.append h2)
            obtain ⟨henter, hcalls⟩ := hcall (.f g) _ H nx r h R w _ hR hv hf
            have hargs : (fi' ++ args.map a.eval) ++ ca' = (fi'.toList ++ (args.toList.map a.eval ++ ca'.toList)).toArray := by
              apply Array.toList_inj.1; simp
            have hrun : (execOp a.eval ⟨dst, .call ⟨.value f, args, ts⟩, ty, pos, after, guard⟩).run P w = .ok (.enter g ((fi' ++ args.map a.eval) ++ ca')) w := by
              simp only [execOp, resolve, e, Deferred.ofValue, Sem.run_bind, Sem.run_pure, Result.andThen_ok, invoke]
              exact henter _ _
            rw [hrun, hargs]
            refine ⟨(fun h => by cases h), ?_⟩
            refine CallsIn.mono (show CallsIn (Fw ro) (n - 1) P g _ w _ from hcalls (n - 1)) ?_
            rintro e w' ⟨v, rfl, hd⟩
            exact hK v w' hd
          case yld id =>
            simp only [callAt] at h
            obtain ⟨b, c, hr, e⟩ := hvf
            obtain ⟨fn, tmps, as, body, hy, hround⟩ := hcall (.r id) _ H nx r h R w _ hR hvl hf b c hr
            have hrun : (execOp a.eval ⟨dst, .call ⟨.value f, args, ts⟩, ty, pos, after, guard⟩).run P w = .ok (.round b fn tmps as body) w := by
              simp only [execOp, resolve, e, Deferred.ofValue, Sem.run_bind, Sem.run_pure, Result.andThen_ok, invoke]
              rw [e2] at hy
              rw [show (#[] : Array Value) ++ args.map a.eval = args.map a.eval by simp]
              exact hy
            rw [hrun]
            refine ⟨(fun h => by cases h), ?_⟩
            refine RoundIn.mono (show RoundIn (Fw ro) (n - 1) P b fn tmps as body w _ from hround (n - 1)) ?_
            rintro e w' ⟨v, rfl, hd⟩
            exact hK v w' hd
  case defer c => exact absurd (show (none : Option Res) = some r from h) (by simp)
  all_goals (obtain ⟨h1, h2⟩ := res_some h; exact wp_of_ran (by simp) (evPureO_ok (o := ⟨dst, _, ty, pos, after, guard⟩) hF hR h1) hK)
end Go.Rx
