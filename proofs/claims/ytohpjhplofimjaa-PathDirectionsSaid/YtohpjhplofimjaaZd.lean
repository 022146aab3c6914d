/-
  What the run of closed code says of the machine: values, lists, types, operations that do not look at memory. No program.
-/
import Derived.Test.YtohpjhplofimjaaZc
import Derived.Laws.StructEq
import Derived.Laws.AppendOwn
import Derived.WalkKit
set_option linter.unusedSimpArgs false
set_option linter.unusedVariables false
set_option linter.unusedSectionVars false
namespace Go.Rx
open Go

/-! ### Values -/
theorem ofC_ok {R : Ren} : ∀ {v : Value} {lv : LV}, ofC v = some lv → VR R lv v
  | .bool x, lv, h => by simp [ofC] at h; subst h; rfl
  | .int k n, lv, h => by simp [ofC, nI_eq] at h; subst h; rfl
  | .string x, lv, h => by simp [ofC] at h; subst h; rfl
  | .pointer none, lv, h => by simp [ofC] at h; subst h; rfl
  | .slice none 0 0, lv, h => by simp [ofC] at h; subst h; rfl
  | .nilFunc, lv, h => by simp [ofC] at h; subst h; rfl
  | .map none, lv, h => by simp [ofC] at h; subst h; rfl
  | .nilIface, lv, h => by simp [ofC] at h; subst h; rfl
  | .pointer (some _), lv, h => by simp [ofC] at h
  | .slice (some _) _ _, lv, h => by simp [ofC] at h
  | .slice none (_ + 1) _, lv, h => by simp [ofC] at h
  | .slice none 0 (_ + 1), lv, h => by simp [ofC] at h
  | .map (some _), lv, h => by simp [ofC] at h
  | .float _ _, lv, h => by simp [ofC] at h
  | .complex _ _ _, lv, h => by simp [ofC] at h
  | .chan _, lv, h => by simp [ofC] at h
  | .func _ _ _, lv, h => by simp [ofC] at h
  | .iface _ _, lv, h => by simp [ofC] at h
  | .agg _, lv, h => by simp [ofC] at h
  | .tuple _, lv, h => by simp [ofC] at h
theorem ofL_ok {R : Ren} : ∀ {vs : List Value} {l : List LV}, ofL vs = some l → VRL R l vs
  | [], l, h => by simp [ofL] at h; subst h; rfl
  | v :: r, l, h => by
    simp only [ofL] at h
    cases hx : ofC v with
    | none => simp [hx] at h
    | some x =>
      cases hr : ofL r with
      | none => simp [hx, hr] at h
      | some m => simp [hx, hr] at h; subst h; exact VRL.cons (ofC_ok hx) (ofL_ok hr)
theorem ofV_ok {R : Ren} {v : Value} {lv : LV} (h : ofV v = some lv) : VR R lv v := by
  cases v with
  | agg a =>
    simp only [ofV] at h
    cases hl : ofL a.toList with
    | none => simp [hl] at h
    | some l => simp [hl] at h; subst h; exact ⟨a, rfl, ofL_ok hl⟩
  | tuple a =>
    simp only [ofV] at h
    cases hl : ofL a.toList with
    | none => simp [hl] at h
    | some l => simp [hl] at h; subst h; exact ⟨a, rfl, ofL_ok hl⟩
  | _ => exact ofC_ok h
theorem toC_ok {R : Ren} {lv : LV} {v v' : Value} (h : toC lv = some v') (hv : VR R lv v) : v = v' := by
  cases lv <;> simp [toC] at h <;> subst h <;> exact hv
theorem toL_ok {R : Ren} : ∀ {l : List LV} {vs vs' : List Value}, toL l = some vs' → VRL R l vs → vs = vs'
  | [], vs, vs', h, hv => by simp [toL] at h; subst h; exact hv
  | x :: l, vs, vs', h, hv => by
    obtain ⟨y, r, e, h1, h2⟩ := hv
    simp only [toL] at h
    cases hx : toC x with
    | none => simp [hx] at h
    | some u =>
      cases hr : toL l with
      | none => simp [hx, hr] at h
      | some m => simp [hx, hr] at h; subst h; rw [e, toC_ok hx h1, toL_ok hr h2]
theorem toV_ok {R : Ren} {lv : LV} {v v' : Value} (h : toV lv = some v') (hv : VR R lv v) : v = v' := by
  cases lv with
  | agg l =>
    obtain ⟨a, e, hl⟩ := hv
    simp only [toV] at h
    cases hr : toL l with
    | none => simp [hr] at h
    | some m => simp [hr] at h; subst h; rw [e, ← toL_ok hr hl]
  | tup l =>
    obtain ⟨a, e, hl⟩ := hv
    simp only [toV] at h
    cases hr : toL l with
    | none => simp [hr] at h
    | some m => simp [hr] at h; subst h; rw [e, ← toL_ok hr hl]
  | _ => simp only [toV] at h; exact toC_ok h hv
theorem ofSem_ok {α : Type} {P : Program} : ∀ {s : Sem α} {a : α}, ofSem P s = some a → ∀ w, s.run P w = .ok a w
  | .pure _, _, h, _ => by simp [ofSem] at h; subst h; rfl
  | .program k, _, h, w => by simp only [ofSem] at h; exact ofSem_ok (s := k P) h w
  | .load .., _, h, _ | .store .., _, h, _ | .new .., _, h, _ | .shape .., _, h, _ | .freeze .., _, h, _ | .frozen .., _, h, _ | .getObj .., _, h, _ | .setObj .., _, h, _
  | .choose .., _, h, _ | .sys .., _, h, _ | .mark .., _, h, _ | .halt .., _, h, _ => by simp [ofSem] at h

/-! ### Lists -/
theorem tk_ok : ∀ {n : Nat} {l r : List LV}, tk n l = some r → r = l.take n ∧ n ≤ l.length
  | 0, l, r, h => by simp [tk] at h; subst h; simp
  | n + 1, [], r, h => by simp [tk] at h
  | n + 1, x :: l, r, h => by
    simp only [tk] at h
    cases hr : tk n l with
    | none => simp [hr] at h
    | some m => simp [hr] at h; subst h; obtain ⟨e, hl⟩ := tk_ok hr; simp [e, hl]
theorem dp_eq : ∀ (n : Nat) (l : List LV), dp n l = l.drop n
  | 0, l => by simp [dp]
  | _ + 1, [] => by simp [dp]
  | n + 1, _ :: l => by simp [dp, dp_eq n l]
theorem ap_eq : ∀ (l m : List LV), ap l m = l ++ m
  | [], m => rfl
  | x :: l, m => by
    rw [ap, ap_eq l m, List.cons_append]
    generalize l ++ m = u
    cases u <;> rfl
theorem at_eq : ∀ (l : List LV) (k : Nat), at? l k = l[k]?
  | [], _ => by simp [at?]
  | _ :: _, 0 => by simp [at?]
  | _ :: l, k + 1 => by simp [at?, at_eq l k]
theorem pt_ok : ∀ {k : Nat} {l ys r : List LV}, pt k l ys = some r → r = l.take k ++ ys ++ l.drop (k + ys.length) ∧ k + ys.length ≤ l.length
  | 0, l, [], r, h => by simp [pt] at h; subst h; simp
  | 0, [], _ :: _, r, h => by simp [pt] at h
  | 0, _ :: l, y :: ys, r, h => by
    simp only [pt] at h
    cases hr : pt 0 l ys with
    | none => simp [hr] at h
    | some m => simp [hr] at h; subst h; obtain ⟨e, hl⟩ := pt_ok hr; simp at e hl; simp [e, hl]
  | k + 1, [], ys, r, h => by simp [pt] at h
  | k + 1, x :: l, ys, r, h => by
    simp only [pt] at h
    cases hr : pt k l ys with
    | none => simp [hr] at h
    | some m =>
      simp [hr] at h; subst h; obtain ⟨e, hl⟩ := pt_ok hr
      have : k + 1 + ys.length = k + ys.length + 1 := by omega
      simp [e, this]; omega
theorem VRL.pt {R : Ren} {k : Nat} {l ys r : List LV} {vs us : List Value} (h : pt k l ys = some r) (hv : VRL R l vs) (hu : VRL R ys us) :
    VRL R r (vs.take k ++ us ++ vs.drop (k + us.length)) ∧ k + us.length ≤ vs.length := by
  obtain ⟨e, hl⟩ := pt_ok h
  have h1 := hv.length
  have h2 := hu.length
  rw [e, h2]
  exact ⟨((hv.take k).append hu).append (hv.drop _), by omega⟩
theorem VR.cells {R : Ren} {lv : LV} {v : Value} (h : VR R lv v) : VRL R lv.cells v.cells.toList := by
  cases lv with
  | agg l => obtain ⟨a, rfl, hl⟩ := h; exact hl
  | tup l => obtain ⟨a, rfl, hl⟩ := h; exact VRL.cons ⟨a, rfl, hl⟩ VRL.nil
  | fn f a c => obtain ⟨a', c', rfl, h1, h2⟩ := h; exact VRL.cons ⟨a', c', rfl, h1, h2⟩ VRL.nil
  | p id off => obtain ⟨b, c, hr, rfl⟩ := h; exact VRL.cons ⟨b, c, hr, rfl⟩ VRL.nil
  | sl id off len cap => obtain ⟨b, c, hr, rfl⟩ := h; exact VRL.cons ⟨b, c, hr, rfl⟩ VRL.nil
  | gs id off el len => obtain ⟨b, c, hr, hle, rfl⟩ := h; exact VRL.cons ⟨b, c, hr, hle, rfl⟩ VRL.nil
  | yld id => obtain ⟨b, c, hr, rfl⟩ := h; exact VRL.cons ⟨b, c, hr, rfl⟩ VRL.nil
  | mp id => obtain ⟨b, c, hr, rfl⟩ := h; exact VRL.cons ⟨b, c, hr, rfl⟩ VRL.nil
  | ifc t x => obtain ⟨y, rfl, hy⟩ := h; exact VRL.cons ⟨y, rfl, hy⟩ VRL.nil
  | _ => subst h; exact VRL.cons rfl VRL.nil
theorem VR.one {R : Ren} {lv : LV} {v : Value} (h : VR R lv v) (h1 : lv.one = true) : v.oneCell' = true := by
  cases lv with
  | agg l => cases h1
  | tup l => cases h1
  | fn f a c => obtain ⟨a', c', rfl, _, _⟩ := h; rfl
  | p id off => obtain ⟨b, c, hr, rfl⟩ := h; rfl
  | sl id off len cap => obtain ⟨b, c, hr, rfl⟩ := h; rfl
  | gs id off el len => obtain ⟨b, c, hr, hle, rfl⟩ := h; rfl
  | yld id => obtain ⟨b, c, hr, rfl⟩ := h; rfl
  | mp id => obtain ⟨b, c, hr, rfl⟩ := h; rfl
  | ifc t x => obtain ⟨y, rfl, hy⟩ := h; rfl
  | _ => subst h; rfl
theorem VRL.one {R : Ren} : ∀ {l : List LV} {vs : List Value}, VRL R l vs → allOne l = true → ∀ u ∈ vs, u.oneCell' = true
  | [], vs, h, _, u, hu => by rw [h] at hu; cases hu
  | x :: l, vs, h, h1, u, hu => by
    obtain ⟨y, r, e, hx, hl⟩ := h
    have hb : x.one = true ∧ allOne l = true := by
      simp only [allOne] at h1
      cases hxo : x.one <;> simp [hxo] at h1
      exact ⟨rfl, h1⟩
    rw [e] at hu
    rcases List.mem_cons.1 hu with rfl | hu
    · exact hx.one hb.1
    · exact VRL.one hl hb.2 u hu

/-! ### Types -/
variable {P : Program}
theorem szOf_ok {t : TypeId} {n : Nat} (h : szOf P t = some n) : ∃ i, P.info? t = some i ∧ i.size = n := by
  unfold szOf at h
  cases hi : P.info? t with
  | none => simp [hi] at h
  | some i => simp [hi, nN_eq] at h; exact ⟨i, rfl, h⟩
theorem run_sizeOf' {t : TypeId} {n : Nat} (h : szOf P t = some n) (w : World) : (sizeOf t).run P w = .ok n w := by
  obtain ⟨i, hi, rfl⟩ := szOf_ok h
  simp [sizeOf, typeInfo, hi]
theorem run_isAg {t : TypeId} {b : Bool} (h : isAg P t = some b) (w : World) : (isAgg t).run P w = .ok b w := by
  unfold isAg at h
  cases hu : P.underlying t with
  | none => simp [hu] at h
  | some d => cases d <;> simp [hu] at h <;> subst h <;> simp [isAgg, run_underlying hu]
theorem zeroOf_ok {t : TypeId} {z : LV} (h : zeroOf P t = some z) : ∃ i v, P.info? t = some i ∧ i.zero = some v ∧ ofV v = some z := by
  unfold zeroOf at h
  cases hi : P.info? t with
  | none => simp [hi] at h
  | some i =>
    cases hz : i.zero with
    | none => simp [hi, hz] at h
    | some v => simp [hi, hz] at h; exact ⟨i, v, rfl, hz, h⟩
theorem run_zeroOf {t : TypeId} {z : LV} (h : zeroOf P t = some z) {R : Ren} : ∃ v, VR R z v ∧ ∀ w, (zeroValue t).run P w = .ok v w := by
  obtain ⟨i, v, hi, hz, hv⟩ := zeroOf_ok h
  exact ⟨v, ofV_ok hv, fun w => by simp [zeroValue, typeInfo, hi, hz]⟩
theorem run_prt {R : Ren} {t : TypeId} {cs : List LV} {off : Nat} {lv : LV} {vs : Array Value} (h : prt P t cs off = some lv) (hv : VRL R cs vs.toList) :
    ∃ v, VR R lv v ∧ ∀ w, (part t vs off).run P w = .ok v w := by
  unfold prt at h
  cases ha : isAg P t with
  | none => simp [ha] at h
  | some b =>
    cases b with
    | false =>
      simp [ha, at_eq] at h
      obtain ⟨v, hg, hr⟩ := hv.get h
      exact ⟨v, hr, fun w => by simp at hg; simp [part, run_isAg ha, hg]⟩
    | true =>
      cases hs : szOf P t with
      | none => simp [ha, hs] at h
      | some n =>
        cases hk : tk n (dp off cs) with
        | none => simp [ha, hs, hk] at h
        | some r =>
          simp [ha, hs, hk] at h
          subst h
          obtain ⟨rfl, hl⟩ := tk_ok hk
          refine ⟨.agg (vs.extract off (off + n)), ⟨_, rfl, ?_⟩, fun w => by simp [part, run_isAg ha, run_sizeOf' hs]⟩
          rw [dp_eq]
          have := (hv.drop off).take n
          simpa [Array.toList_extract, List.take_drop, Nat.add_comm] using this
end Go.Rx
