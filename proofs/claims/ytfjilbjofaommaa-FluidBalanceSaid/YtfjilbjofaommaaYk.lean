/-
  A symbolic run: what it says of a run (the first half). No program.
-/
import Derived.Test.YtfjilbjofaommaaYa
import Derived.Test.YtfjilbjofaommaaZx
set_option linter.unusedSimpArgs false
set_option linter.unusedVariables false
set_option linter.unusedSectionVars false
namespace Go.Rx
open Go

theorem Al.force_eq {α β : Type} (t : Al α) (K : Al α → β) : t.force K = K t := rfl
theorem Al.get_l {α : Type} (j : Nat) : (Al.l : Al α).get j = none := rfl
theorem Al.get_set {α : Type} (t : Al α) (k j : Nat) (x : Option α) : (t.set k x).get j = if j = k then x else t.get j := by
  show (match Nat.beq j k with | true => x | false => t.get j) = _
  by_cases h : j = k
  · rw [(beq_iff _ _).2 h, if_pos h]
  · rw [(beq_false _ _).2 h, if_neg h]
theorem Al.get_set_same {α : Type} (t : Al α) (k : Nat) (x : Option α) : (t.set k x).get k = x := by rw [Al.get_set, if_pos rfl]
theorem Al.get_set_ne {α : Type} (t : Al α) {k j : Nat} (x : Option α) (h : j ≠ k) : (t.set k x).get j = t.get j := by rw [Al.get_set, if_neg h]
def InK : IntKind → Int → Prop
  | .i64, n => -9223372036854775808 ≤ n ∧ n ≤ 9223372036854775807
  | k, n => k.wrap n = n
theorem InK.wrap {k : IntKind} {n : Int} (h : InK k n) : k.wrap n = n := by
  cases k <;> first | exact h | exact wrap_small h.1 (by have := h.2; omega)
def bitsI (op : BinOp) (k : IntKind) (x y : Int) : Int := match op with
  | .and => k.wrap (BitVec.ofInt k.bits x &&& BitVec.ofInt k.bits y).toNat
  | .or => k.wrap (BitVec.ofInt k.bits x ||| BitVec.ofInt k.bits y).toNat
  | .xor => k.wrap (BitVec.ofInt k.bits x ^^^ BitVec.ofInt k.bits y).toNat
  | _ => k.wrap (BitVec.ofInt k.bits x &&& ~~~ BitVec.ofInt k.bits y).toNat
def notI (k : IntKind) (x : Int) : Int := bitsI .xor k (if k.signed then -1 else k.max) x
def shI (op : BinOp) (k : IntKind) (x y : Int) : Int := match op with
  | .shl => k.wrap (x * 2 ^ (min y.toNat k.bits))
  | _ => x.fdiv (2 ^ (min y.toNat k.bits))
def boolI (b : Bool) : Int := match b with | true => 1 | false => 0

/-! ### Lists of rows of integers -/
abbrev Ll := List (List Int)
def Ll.len (h : Ll) : Int := h.length
def Ll.get (h : Ll) (i : Int) (j : Nat) : Int := (h.getD i.toNat []).getD j 0
def Ll.getB (h : Ll) (i : Int) (j : Nat) : Bool := decide (h.get i j ≠ 0)
def Ll.set (h : Ll) (i : Int) (j : Nat) (v : Int) : Ll := List.set h i.toNat ((h.getD i.toNat []).set j v)
def cmpB (op : BinOp) (a b : Int) : Bool := match op with
  | .eql => decide (a = b)
  | .neq => decide (a ≠ b)
  | .lss => decide (a < b)
  | .leq => decide (a ≤ b)
  | .gtr => decide (a > b)
  | _ => decide (a ≥ b)
def cmpP (op : BinOp) (a b : Int) : Prop := match op with
  | .eql => a = b
  | .neq => a ≠ b
  | .lss => a < b
  | .leq => a ≤ b
  | .gtr => a > b
  | _ => a ≥ b
/-- Functions that are named by numbers. -/
structure Fs where
  i : Nat → List Ll → List Int → Int
  b : Nat → List Ll → List Int → Bool
  l : Nat → List Ll → List Int → Ll
  rng : FuncId → List Bool → Option (Array Tmp × Code × Code) := fun _ _ => none
def binI (ov : Bool) (op : BinOp) (k : IntKind) (a b : Int) (K : Int → Prop) : Prop := match op with
  | .add => (match ov with | true => InK k (a + b) ∧ K (a + b) | false => K (k.wrap (a + b)))
  | .sub => (match ov with | true => InK k (a - b) ∧ K (a - b) | false => K (k.wrap (a - b)))
  | .mul => (match ov with | true => InK k (a * b) ∧ K (a * b) | false => K (k.wrap (a * b)))
  | .quo => (match ov with | true => b ≠ 0 ∧ (InK k (a.tdiv b) ∧ K (a.tdiv b)) | false => b ≠ 0 ∧ K (k.wrap (a.tdiv b)))
  | .rem => b ≠ 0 ∧ K (a.tmod b)
  | .and => K (bitsI .and k a b)
  | .or => K (bitsI .or k a b)
  | .xor => K (bitsI .xor k a b)
  | .andNot => K (bitsI .andNot k a b)
  | _ => False
def unI (ov : Bool) (op : UnOp) (k : IntKind) (a : Int) (K : Int → Prop) : Prop := match op with
  | .neg => (match ov with | true => InK k (0 - a) ∧ K (0 - a) | false => K (k.wrap (0 - a)))
  | .xor => K (notI k a)
  | _ => False
abbrev stdA (fs : Fs) (ov : Bool) : Alg where
  I := Int
  B := Bool
  L := Ll
  R := Prop
  lit := fun n => n
  ofB := fun b => b
  bin := binI ov
  un := unI ov
  sh := fun op k a b K => 0 ≤ b ∧ K (shI op k a b)
  conv := fun k a K => match ov with | true => InK k a ∧ K a | false => K (k.wrap a)
  cmp := cmpB
  not := fun x => !x
  and := fun x y => x && y
  iff := fun x y => x == y
  min := minL
  max := maxL
  br := fun b x y => cond b (x ()) (y ())
  need := fun op a b r => cmpP op a b ∧ r
  fail := fun _ => False
  len := Ll.len
  get := Ll.get
  getB := Ll.getB
  set := Ll.set
  setB := fun h i j v => Ll.set h i j (boolI v)
  nil := []
  row := fun l => [l.map fun x => match x with | .inl n => n | .inr b => boolI b]
  cat := fun a b => a ++ b
  app := fs.i
  appB := fs.b
  appL := fs.l

/-! ### What symbolic values and memory say -/
abbrev Nm := Nat → Option (Nat × Nat)
variable {fs : Fs} {ov : Bool}
/-- A slice of n elements. -/
def LSr (x : Option (Nat × Nat)) (own : Bool) (n : Int) (v : LV) : Prop := 0 ≤ n ∧ ((v = .nils ∧ n = 0) ∨ ∃ r o, x = some (r, o) ∧ ((o = 0 ∧ v = .gs r 0 0 n.toNat) ∨ (own = false ∧ ∃ cap, n.toNat ≤ cap ∧ v = .sl r o n.toNat cap)))
mutual
def VS (ν : Nm) : SV (stdA fs ov) → LV → Prop
  | .b x, v => v = .b x
  | .i k n, v => v = .i k n
  | .s x, v => v = .s x
  | .nilp, v => v = .nilp
  | .p id off, v => ∃ r, ν id = some (r, 0) ∧ v = .p r off
  | .pe id z i j, v => ∃ r o, ν id = some (r, o) ∧ 0 ≤ i ∧ v = .p r (o + i.toNat * z + j)
  | .nils, v => v = .nils
  | .sl id off len cap, v => ∃ r, ν id = some (r, 0) ∧ v = .sl r off len cap
  | .ls own id n, v => LSr (ν id) own n v
  | .fn f a c, v => ∃ a' c', v = .fn (.func f) a' c' ∧ VSL ν a a' ∧ VSL ν c c'
  | .yld id, v => ∃ r, ν id = some (r, 0) ∧ v = .yld r
  | .nilf, v => v = .nilf
  | .nili, v => v = .nili
  | .agg l, v => ∃ l', v = .agg l' ∧ VSL ν l l'
  | .tup l, v => ∃ l', v = .tup l' ∧ VSL ν l l'
def VSL (ν : Nm) : List (SV (stdA fs ov)) → List LV → Prop
  | [], vs => vs = []
  | x :: l, vs => ∃ y r, vs = y :: r ∧ VS ν x y ∧ VSL ν l r
end
/-- Names below a bound stay as they are. -/
def Lo (n : Nat) (ν ν' : Nm) : Prop := ∀ id, id < n → ν' id = ν id
def NLe (ν ν' : Nm) : Prop := ∀ id x, ν id = some x → ν' id = some x
def cellLV : CK → Int → LV
  | .int k, n => .i k n
  | .bool, n => .b (decide (n ≠ 0))
def cellsOK (lcs : List LV) (o : Nat) (ks : List CK) (h : Ll) : Prop := ∀ (i j : Nat) (k : CK), i < h.length → ks[j]? = some k → lcs[o + i * ks.length + j]? = some (cellLV k (h.get i j))
/-- What can be read of an object from an offset on. -/
def RD (lo : LO) (o : Nat) (ks : List CK) (h : Ll) : Prop := (∃ lcs, lo.cs = some lcs ∧ cellsOK lcs o ks h) ∨ ∃ base cs, lo = .ro base cs ∧ base ≤ o ∧ cellsOK cs (o - base) ks h
structure FS (ν : Nm) (T : Al (SV (stdA fs ov))) (L : Tr LV) : Prop where
  at_ : ∀ t v, T.get t = some v → ∃ lv, L.get t = some lv ∧ VS ν v lv
def OS (ν : Nm) (H : Hp) (id : Nat) : SO (stdA fs ov) → Prop
  | .row t cs => ∃ r lcs, ν id = some (r, 0) ∧ H.get r = some (.row t lcs) ∧ VSL ν cs lcs
  | .list t ks own h => (∀ x ∈ h, x.length = ks.length) ∧ (h.length = 0 ∨ ∃ r o lo, ν id = some (r, o) ∧ H.get r = some lo ∧ RD lo o ks h) ∧
      (own = true → ∀ r o, ν id = some (r, o) → o = 0 ∧ ∃ lcs, H.get r = some (.gro t ks.length lcs) ∧ lcs.length = h.length * ks.length ∧ cellsOK lcs 0 ks h)
  | .frm g p N T b e => ∃ r ps as body d L, ν id = some (r, 0) ∧ H.get r = some (.loop (bif b then .busy else e.st) e.code N L ps as body d) ∧ FS ν T L ∧ fs.rng g p = some (ps, as, body) ∧ (b = true → e = .normal)
structure HS (ν : Nm) (M : SH (stdA fs ov)) (snx : Nat) (H : Hp) (nx : Nat) : Prop where
  at_ : ∀ id so, M.get id = some so → id < snx ∧ OS ν H id so
  lt : ∀ id r o, ν id = some (r, o) → r < nx ∧ id < snx
  inj : ∀ id id' r o o' so so', M.get id = some so → so.mine = true → M.get id' = some so' → ν id = some (r, o) → ν id' = some (r, o') → id = id'

mutual
theorem VS.mono {ν ν' : Nm} (h : NLe ν ν') : ∀ {x : SV (stdA fs ov)} {v : LV}, VS ν x v → VS ν' x v
  | .b _, _, hv => hv
  | .i _ _, _, hv => hv
  | .s _, _, hv => hv
  | .nilp, _, hv => hv
  | .p _ _, _, hv => by obtain ⟨r, h1, e⟩ := hv; exact ⟨r, h _ _ h1, e⟩
  | .pe _ _ _ _, _, hv => by obtain ⟨r, o, h1, h2, e⟩ := hv; exact ⟨r, o, h _ _ h1, h2, e⟩
  | .nils, _, hv => hv
  | .sl _ _ _ _, _, hv => by obtain ⟨r, h1, e⟩ := hv; exact ⟨r, h _ _ h1, e⟩
  | .ls _ _ _, _, hv => by
    obtain ⟨h0, hv⟩ := hv
    refine ⟨h0, hv.imp_right ?_⟩
    rintro ⟨r, o, h1, e⟩
    exact ⟨r, o, h _ _ h1, e⟩
  | .fn _ _ _, _, hv => by obtain ⟨a, c, e, h1, h2⟩ := hv; exact ⟨a, c, e, VSL.mono h h1, VSL.mono h h2⟩
  | .yld _, _, hv => by obtain ⟨r, h1, e⟩ := hv; exact ⟨r, h _ _ h1, e⟩
  | .nilf, _, hv => hv
  | .nili, _, hv => hv
  | .agg _, _, hv => by obtain ⟨a, e, h1⟩ := hv; exact ⟨a, e, VSL.mono h h1⟩
  | .tup _, _, hv => by obtain ⟨a, e, h1⟩ := hv; exact ⟨a, e, VSL.mono h h1⟩
theorem VSL.mono {ν ν' : Nm} (h : NLe ν ν') : ∀ {l : List (SV (stdA fs ov))} {vs : List LV}, VSL ν l vs → VSL ν' l vs
  | [], _, hv => hv
  | _ :: _, _, hv => by obtain ⟨y, r, e, h1, h2⟩ := hv; exact ⟨y, r, e, VS.mono h h1, VSL.mono h h2⟩
end
variable {ν ν' : Nm}
theorem FS.up {T : Al (SV (stdA fs ov))} {L : Tr LV} (hF : FS ν T L) (h : NLe ν ν') : FS ν' T L := ⟨fun t v ht => let ⟨lv, a, b⟩ := hF.at_ t v ht; ⟨lv, a, b.mono h⟩⟩
theorem VSL.nil : VSL (fs := fs) (ov := ov) ν [] [] := rfl
theorem VSL.cons {x : SV (stdA fs ov)} {y : LV} {l : List (SV (stdA fs ov))} {vs : List LV} (h : VS ν x y) (h' : VSL ν l vs) : VSL ν (x :: l) (y :: vs) := ⟨y, vs, rfl, h, h'⟩
theorem VSL.length : ∀ {l : List (SV (stdA fs ov))} {vs : List LV}, VSL ν l vs → vs.length = l.length
  | [], _, h => by rw [h]; rfl
  | _ :: _, _, h => by obtain ⟨y, r, e, _, h2⟩ := h; rw [e]; simp [VSL.length h2]
theorem VSL.append : ∀ {l l' : List (SV (stdA fs ov))} {vs vs' : List LV}, VSL ν l vs → VSL ν l' vs' → VSL ν (l ++ l') (vs ++ vs')
  | [], _, _, _, h, h' => by rw [h]; exact h'
  | _ :: _, _, _, _, h, h' => by obtain ⟨y, r, e, h1, h2⟩ := h; rw [e]; exact ⟨y, _, rfl, h1, VSL.append h2 h'⟩
theorem VSL.get : ∀ {l : List (SV (stdA fs ov))} {vs : List LV} {k : Nat} {x : SV (stdA fs ov)}, VSL ν l vs → l[k]? = some x → ∃ v, vs[k]? = some v ∧ VS ν x v
  | [], _, _, _, _, hx => by simp at hx
  | _ :: _, _, 0, _, h, hx => by obtain ⟨y, r, e, h1, _⟩ := h; simp at hx; subst hx; exact ⟨y, by rw [e]; rfl, h1⟩
  | _ :: l, _, k + 1, x, h, hx => by
    obtain ⟨y, r, e, _, h2⟩ := h
    obtain ⟨v, hv, hr⟩ := VSL.get (k := k) h2 (by simpa using hx)
    exact ⟨v, by rw [e]; simpa using hv, hr⟩
theorem VSL.drop : ∀ {l : List (SV (stdA fs ov))} {vs : List LV} (k : Nat), VSL ν l vs → VSL ν (l.drop k) (vs.drop k)
  | _, _, 0, h => by simpa using h
  | [], _, _ + 1, h => by rw [h]; simp [VSL]
  | _ :: _, _, k + 1, h => by obtain ⟨y, r, e, _, h2⟩ := h; rw [e]; simpa using VSL.drop k h2
theorem VSL.tk : ∀ {n : Nat} {l r : List (SV (stdA fs ov))} {vs : List LV}, gtk n l = some r → VSL ν l vs → ∃ rs, Rx.tk n vs = some rs ∧ VSL ν r rs
  | 0, l, r, vs, h, _ => by simp [gtk] at h; subst h; exact ⟨[], by simp [Rx.tk], rfl⟩
  | n + 1, [], r, vs, h, _ => by simp [gtk] at h
  | n + 1, x :: l, r, vs, h, hv => by
    obtain ⟨y, u, e, h1, h2⟩ := hv
    simp only [gtk] at h
    cases hr : gtk n l with
    | none => simp [hr] at h
    | some m =>
      simp [hr] at h; subst h
      obtain ⟨rs, h3, h4⟩ := VSL.tk hr h2
      exact ⟨y :: rs, by rw [e]; simp [Rx.tk, h3], VSL.cons h1 h4⟩
theorem VSL.pt : ∀ {k : Nat} {l ys r : List (SV (stdA fs ov))} {vs us : List LV}, gpt k l ys = some r → VSL ν l vs → VSL ν ys us → ∃ rs, Rx.pt k vs us = some rs ∧ VSL ν r rs
  | 0, l, [], r, vs, us, h, hv, hu => by simp [gpt] at h; subst h; rw [hu]; exact ⟨vs, by cases vs <;> simp [Rx.pt], hv⟩
  | 0, [], _ :: _, r, vs, us, h, hv, hu => by simp [gpt] at h
  | 0, x :: l, y :: ys, r, vs, us, h, hv, hu => by
    simp only [gpt] at h
    cases hr : gpt 0 l ys with
    | none => simp [hr] at h
    | some m =>
      simp [hr] at h; subst h
      obtain ⟨v, vs', rfl, h1, h2⟩ := hv
      obtain ⟨u, us', rfl, h3, h4⟩ := hu
      obtain ⟨rs, h5, h6⟩ := VSL.pt hr h2 h4
      exact ⟨u :: rs, by simp [Rx.pt, h5], VSL.cons h3 h6⟩
  | k + 1, [], ys, r, vs, us, h, hv, hu => by simp [gpt] at h
  | k + 1, x :: l, ys, r, vs, us, h, hv, hu => by
    simp only [gpt] at h
    cases hr : gpt k l ys with
    | none => simp [hr] at h
    | some m =>
      simp [hr] at h; subst h
      obtain ⟨v, vs', rfl, h1, h2⟩ := hv
      obtain ⟨rs, h5, h6⟩ := VSL.pt hr h2 hu
      exact ⟨v :: rs, by simp [Rx.pt, h5], VSL.cons h1 h6⟩
theorem VS.cells {x : SV (stdA fs ov)} {v : LV} (h : VS ν x v) : VSL ν x.cells v.cells := by
  cases x with
  | agg l => obtain ⟨a, rfl, hl⟩ := h; exact hl
  | tup l => obtain ⟨a, rfl, hl⟩ := h; exact VSL.cons ⟨a, rfl, hl⟩ VSL.nil
  | fn f a c => obtain ⟨a', c', rfl, h1, h2⟩ := h; exact VSL.cons ⟨a', c', rfl, h1, h2⟩ VSL.nil
  | p id off => obtain ⟨r, h1, rfl⟩ := h; exact VSL.cons ⟨r, h1, rfl⟩ VSL.nil
  | yld id => obtain ⟨r, h1, rfl⟩ := h; exact VSL.cons ⟨r, h1, rfl⟩ VSL.nil
  | pe id z i j => obtain ⟨r, o, h1, h2, rfl⟩ := h; exact VSL.cons ⟨r, o, h1, h2, rfl⟩ VSL.nil
  | sl id off len cap => obtain ⟨r, h1, rfl⟩ := h; exact VSL.cons ⟨r, h1, rfl⟩ VSL.nil
  | ls own id n =>
    have h' := h
    obtain ⟨h0, ⟨rfl, _⟩ | ⟨r, o, _, ⟨_, rfl⟩ | ⟨_, c, _, rfl⟩⟩⟩ := h'
    · exact VSL.cons h VSL.nil
    · exact VSL.cons h VSL.nil
    · exact VSL.cons h VSL.nil
  | _ => subst h; exact VSL.cons rfl VSL.nil
end Go.Rx

set_option linter.unusedSimpArgs false
set_option linter.unusedVariables false
set_option linter.unusedSectionVars false
namespace Go.Rx
open Go
variable {fs : Fs} {ov : Bool} {ν : Nm} {P : Program} {T : Al (SV (stdA fs ov))} {L : Tr LV}

theorem opt_ok {x : Option (SV (stdA fs ov))} {why : String} {K : SV (stdA fs ov) → Prop} (h : opt x why K) : ∃ v, x = some v ∧ K v := by
  cases x with
  | none => exact h.elim
  | some v => exact ⟨v, rfl, h⟩

/-! ### Constants, operands -/
theorem sC_ok : ∀ {v : Value} {x : SV (stdA fs ov)}, sC v = some x → ∃ lv, ofC v = some lv ∧ VS ν x lv
  | .bool b, x, h => by simp [sC] at h; subst h; exact ⟨_, rfl, rfl⟩
  | .int k n, x, h => by simp [sC] at h; subst h; exact ⟨.i k n, by simp [ofC, nI_eq], rfl⟩
  | .string s, x, h => by simp [sC] at h; subst h; exact ⟨_, rfl, rfl⟩
  | .pointer none, x, h => by simp [sC] at h; subst h; exact ⟨_, rfl, rfl⟩
  | .slice none 0 0, x, h => by simp [sC] at h; subst h; exact ⟨_, rfl, rfl⟩
  | .nilFunc, x, h => by simp [sC] at h; subst h; exact ⟨_, rfl, rfl⟩
  | .nilIface, x, h => by simp [sC] at h; subst h; exact ⟨_, rfl, rfl⟩
  | .pointer (some _), x, h => by simp [sC] at h
  | .slice (some _) _ _, x, h => by simp [sC] at h
  | .slice none (_ + 1) _, x, h => by simp [sC] at h
  | .slice none 0 (_ + 1), x, h => by simp [sC] at h
  | .map _, x, h => by simp [sC] at h
  | .float _ _, x, h => by simp [sC] at h
  | .complex _ _ _, x, h => by simp [sC] at h
  | .chan _, x, h => by simp [sC] at h
  | .func _ _ _, x, h => by simp [sC] at h
  | .iface _ _, x, h => by simp [sC] at h
  | .agg _, x, h => by simp [sC] at h
  | .tuple _, x, h => by simp [sC] at h
theorem sL_ok : ∀ {vs : List Value} {l : List (SV (stdA fs ov))}, sL vs = some l → ∃ ls, ofL vs = some ls ∧ VSL ν l ls
  | [], l, h => by simp [sL] at h; subst h; exact ⟨[], rfl, rfl⟩
  | v :: r, l, h => by
    simp only [sL] at h
    cases hx : sC (A := stdA fs ov) v with
    | none => simp [hx] at h
    | some x =>
      cases hr : sL (A := stdA fs ov) r with
      | none => simp [hx, hr] at h
      | some m =>
        simp [hx, hr] at h; subst h
        obtain ⟨lx, h1, h2⟩ := sC_ok (ν := ν) hx
        obtain ⟨ls, h3, h4⟩ := sL_ok hr
        exact ⟨lx :: ls, by simp [ofL, h1, h3], VSL.cons h2 h4⟩
theorem sV_ok {v : Value} {x : SV (stdA fs ov)} (h : sV v = some x) : ∃ lv, ofV v = some lv ∧ VS ν x lv := by
  cases v with
  | agg a =>
    simp only [sV] at h
    cases hl : sL (A := stdA fs ov) a.toList with
    | none => simp [hl] at h
    | some l =>
      simp [hl] at h; subst h
      obtain ⟨ls, h1, h2⟩ := sL_ok (ν := ν) hl
      exact ⟨.agg ls, by simp [ofV, h1], ls, rfl, h2⟩
  | tuple a =>
    simp only [sV] at h
    cases hl : sL (A := stdA fs ov) a.toList with
    | none => simp [hl] at h
    | some l =>
      simp [hl] at h; subst h
      obtain ⟨ls, h1, h2⟩ := sL_ok (ν := ν) hl
      exact ⟨.tup ls, by simp [ofV, h1], ls, rfl, h2⟩
  | _ => simp only [sV] at h; exact sC_ok h
theorem sO_ok (hF : FS ν T L) {x : Operand} {v : SV (stdA fs ov)} (h : sO T x = some v) : ∃ lv, evO L x = some lv ∧ VS ν v lv := by
  cases x with
  | tmp t => exact hF.at_ t v h
  | const v => exact sV_ok h
  | global g => cases h
  | func f => simp [sO] at h; subst h; exact ⟨_, rfl, [], [], rfl, rfl, rfl⟩
theorem sOs_ok (hF : FS ν T L) : ∀ {l : List Operand} {r : List (SV (stdA fs ov))}, sOs T l = some r → ∃ rs, evOs L l = some rs ∧ VSL ν r rs
  | [], r, h => by simp [sOs] at h; subst h; exact ⟨[], rfl, rfl⟩
  | x :: l, r, h => by
    simp only [sOs] at h
    cases hx : sO T x with
    | none => simp [hx] at h
    | some v =>
      cases hr : sOs T l with
      | none => simp [hx, hr] at h
      | some m =>
        simp [hx, hr] at h; subst h
        obtain ⟨lx, h1, h2⟩ := sO_ok hF hx
        obtain ⟨ls, h3, h4⟩ := sOs_ok hF hr
        exact ⟨lx :: ls, by simp [evOs, h1, h3], VSL.cons h2 h4⟩
def PS (ν : Nm) : List (Nat × SV (stdA fs ov)) → List (Nat × LV) → Prop
  | [], vs => vs = []
  | (i, x) :: l, vs => ∃ y r, vs = (i, y) :: r ∧ VS ν x y ∧ PS ν l r
theorem sPartsO_ok (hF : FS ν T L) : ∀ {l : List (Nat × Operand)} {r : List (Nat × SV (stdA fs ov))}, sPartsO T l = some r → ∃ rs, parts L l = some rs ∧ PS ν r rs
  | [], r, h => by simp [sPartsO] at h; subst h; exact ⟨[], rfl, rfl⟩
  | (i, x) :: l, r, h => by
    simp only [sPartsO] at h
    cases hx : sO T x with
    | none => simp [hx] at h
    | some v =>
      cases hr : sPartsO T l with
      | none => simp [hx, hr] at h
      | some m =>
        simp [hx, hr] at h; subst h
        obtain ⟨lx, h1, h2⟩ := sO_ok hF hx
        obtain ⟨ls, h3, h4⟩ := sPartsO_ok hF hr
        exact ⟨(i, lx) :: ls, by simp [parts, h1, h3], lx, ls, rfl, h2, h4⟩
theorem sZero_ok {t : TypeId} {z : SV (stdA fs ov)} (h : sZero P t = some z) : ∃ lz, zeroOf P t = some lz ∧ VS ν z lz := by
  unfold sZero at h
  unfold zeroOf
  cases hi : P.info? t with
  | none => simp [hi] at h
  | some i =>
    cases hz : i.zero with
    | none => simp [hi, hz] at h
    | some v => simp [hi, hz] at h ⊢; exact sV_ok h
theorem sPrt_ok {t : TypeId} {cs : List (SV (stdA fs ov))} {ls : List LV} {off : Nat} {v : SV (stdA fs ov)} (h : sPrt P t cs off = some v) (hv : VSL ν cs ls) : ∃ lv, prt P t ls off = some lv ∧ VS ν v lv := by
  unfold sPrt at h
  unfold prt
  cases ha : isAg P t with
  | none => simp [ha] at h
  | some b =>
    cases b with
    | false =>
      simp [ha, at_eq] at h ⊢
      exact hv.get h
    | true =>
      cases hs : szOf P t with
      | none => simp [ha, hs] at h
      | some n =>
        cases hk : gtk n (cs.drop off) with
        | none => simp [ha, hs, hk] at h
        | some r =>
          simp [ha, hs, hk] at h; subst h
          obtain ⟨rs, h1, h2⟩ := VSL.tk hk (hv.drop off)
          simp only [dp_eq, h1]
          exact ⟨_, rfl, rs, rfl, h2⟩
theorem sFill_ok {place : Nat → Option (Nat × Nat)} : ∀ {l : List (Nat × SV (stdA fs ov))} {ls : List (Nat × LV)} {cs r : List (SV (stdA fs ov))} {lcs : List LV}, sFill place cs l = some r → PS ν l ls → VSL ν cs lcs → ∃ lr, fill place lcs ls = some lr ∧ VSL ν r lr
  | [], ls, cs, r, lcs, h, hp, hc => by simp [sFill] at h; subst h; rw [hp]; exact ⟨lcs, by simp [fill], hc⟩
  | (i, v) :: l, ls, cs, r, lcs, h, hp, hc => by
    obtain ⟨y, r', rfl, hv, hp'⟩ := hp
    simp only [sFill] at h
    cases hpl : place i with
    | none => simp [hpl] at h
    | some q =>
      obtain ⟨off, n⟩ := q
      simp only [hpl] at h
      have hcl := hv.cells
      cases hb : Nat.beq v.cells.length n
      · simp [hb] at h
      · simp only [hb, cond_true] at h
        cases hg : gpt off cs v.cells with
        | none => simp [hg] at h
        | some cs' =>
          simp only [hg] at h
          obtain ⟨rs, h1, h2⟩ := VSL.pt hg hc hcl
          obtain ⟨lr, h3, h4⟩ := sFill_ok h hp' h2
          refine ⟨lr, ?_, h4⟩
          simp only [fill, hpl, hcl.length, hb, cond_true, h1, h3]
theorem sBuildAt_ok {t : TypeId} {z : List (SV (stdA fs ov))} {lz : List LV} {l : List (Nat × SV (stdA fs ov))} {ls : List (Nat × LV)} {r : List (SV (stdA fs ov))} (h : sBuildAt P t z l = some r) (hz : VSL ν z lz) (hl : PS ν l ls) : ∃ lr, buildAt P t lz ls = some lr ∧ VSL ν r lr := by
  unfold sBuildAt at h
  unfold buildAt
  cases hu : P.underlying t with
  | none => simp [hu] at h
  | some d =>
    cases d <;> simp only [hu] at h ⊢ <;> try cases h
    case struct fl =>
      cases hp : places P fl.toList with
      | none => simp [hp] at h
      | some pl => simp only [hp] at h ⊢; exact sFill_ok h hl hz
    case array n e =>
      cases hs : szOf P e with
      | none => simp [hs] at h
      | some k => simp only [hs] at h ⊢; exact sFill_ok h hl hz

/-! ### Programs that read no memory -/
theorem ofSem_bind {α β : Type} : ∀ (s : Sem α) (f : α → Sem β), ofSem P (s >>= f) = match ofSem P s with | some a => ofSem P (f a) | none => none
  | .pure a, f => rfl
  | .program k, f => ofSem_bind (k P) f
  | .load .., f | .store .., f | .new .., f | .shape .., f | .freeze .., f | .frozen .., f | .getObj .., f | .setObj .., f | .choose .., f | .sys .., f | .mark .., f | .halt .., f => rfl
theorem ofSem_pure {α : Type} (a : α) : ofSem P (pure a : Sem α) = some a := rfl
theorem ofSem_under {t : TypeId} {d : TypeDesc} (h : P.underlying t = some d) : ofSem P (underlying t) = some d := by
  have : ofSem P (underlying t) = ofSem P (match P.underlying t with | some d => (pure d : Sem TypeDesc) | none => stuck "no such type") := rfl
  rw [this, h]; rfl
theorem ofSem_program : ofSem P program = some P := rfl
theorem ofSem_part {t : TypeId} {cs : Array Value} {off : Nat} {v : Value} (ha : isAg P t = some false) (h : cs[off]? = some v) : ofSem P (part t cs off) = some v := by
  unfold isAg at ha
  cases hu : P.underlying t with
  | none => simp [hu] at ha
  | some d =>
    have h1 : ofSem P (isAgg t) = some false := by
      unfold isAgg
      rw [ofSem_bind, ofSem_under hu]
      cases d <;> simp [hu] at ha <;> rfl
    unfold part
    rw [ofSem_bind, h1]
    simp only [Bool.false_eq_true, if_false, h]
    rfl
theorem equalIn_struct (d : Nat) (t : TypeId) (xs ys : Array Value) {fl : Array Field} (ht : P.underlying t = some (.struct fl)) (hp : P.stoodInHeld t = false) :
    ofSem P (Op.equalIn (d + 1) t (.agg xs) (.agg ys)) = ofSem P (Op.eqFields d xs ys fl.toList) := by
  simp only [Op.equalIn, ofSem_bind, ofSem_under ht, ofSem_program, hp, Bool.false_eq_true, if_false]
  rw [← Array.forIn_toList]
  generalize fl.toList = l
  clear ht
  induction l with
  | nil => simp [Op.eqFields, ofSem_bind, ofSem_pure]
  | cons f l ih =>
    simp only [List.forIn_cons, Op.eqFields]
    by_cases hn : f.name ≠ "_"
    · simp only [if_pos hn, ofSem_bind]
      generalize ofSem P (part f.type xs f.offset) = r1
      cases r1 with
      | none => rfl
      | some a =>
        simp only
        generalize ofSem P (part f.type ys f.offset) = r2
        cases r2 with
        | none => rfl
        | some b =>
          simp only
          generalize ofSem P (Op.equalIn d f.type a b) = r3
          cases r3 with
          | none => rfl
          | some r =>
            cases r
            · simp [ofSem_pure]
            · simp only [Bool.not_true, Bool.false_eq_true, if_false, ofSem_pure]
              exact ih
    · simp only [if_neg hn, ofSem_bind, ofSem_pure]
      exact ih
theorem eqAt_ok {t : TypeId} {x y : SV (stdA fs ov)} {lx ly : LV} {u : Bool} (h : eqAt P t x y = some u) (hx : VS ν x lx) (hy : VS ν y ly) :
    isAg P t = some false ∧ ∃ a b, toC lx = some a ∧ toC ly = some b ∧ ∀ d, ofSem P (Op.equalIn (d + 1) t a b) = some u := by
  unfold eqAt at h
  split at h
  · rename_i k0 k a k' b hu
    cases hk : decide (k = k')
    · simp [hk] at h
    · simp [hk] at h; subst h
      obtain rfl : k = k' := by simpa using hk
      obtain rfl := hx; obtain rfl := hy
      refine ⟨by simp [isAg, hu], .int k a, .int k b, rfl, rfl, fun d => ?_⟩
      simp only [Op.equalIn, ofSem_bind, ofSem_under hu, if_true]
      show some (a == b) = some (decide (a = b))
      rfl
  · rename_i a b hu
    simp at h; subst h
    obtain rfl := hx; obtain rfl := hy
    refine ⟨by simp [isAg, hu], .bool a, .bool b, rfl, rfl, fun d => ?_⟩
    simp only [Op.equalIn, ofSem_bind, ofSem_under hu]
    rfl
  · cases h
theorem eqFs_ok : ∀ {fl : List Field} {l r : List (SV (stdA fs ov))} {ll lr : List LV} {u : Bool} (o : Nat), eqFs P fl l r = some u → flatFs o fl = true → VSL ν l ll → VSL ν r lr →
    ∃ xs ys, toL ll = some xs ∧ toL lr = some ys ∧ ∀ (X Y : List Value), X.drop o = xs → Y.drop o = ys → ∀ d, ofSem P (Op.eqFields (d + 1) X.toArray Y.toArray fl) = some u
  | [], [], [], ll, lr, u, o, h, _, hl, hr => by
    simp [eqFs] at h; subst h; rw [hl, hr]
    exact ⟨[], [], rfl, rfl, fun X Y _ _ d => rfl⟩
  | f :: fl, x :: l, y :: r, ll, lr, u, o, h, hf, hl, hr => by
    simp only [eqFs] at h
    cases hx : eqAt P f.type x y with
    | none => simp [hx] at h
    | some u0 =>
      simp only [hx] at h
      obtain ⟨lx, ll', rfl, hx1, hl1⟩ := hl
      obtain ⟨ly, lr', rfl, hy1, hr1⟩ := hr
      obtain ⟨ha, a, b, h1, h2, h3⟩ := eqAt_ok hx hx1 hy1
      simp only [flatFs, Bool.and_eq_true, beq_iff] at hf
      obtain ⟨⟨ho, hn⟩, hf⟩ := hf
      have key : ∃ w, eqFs P fl l r = some w ∧ u = (u0 && w) := by
        cases fl with
        | nil =>
          cases l <;> cases r <;> simp at h
          exact ⟨true, rfl, by simp [h]⟩
        | cons g gs =>
          simp only at h
          cases hw : eqFs P (g :: gs) l r with
          | none => simp [hw] at h
          | some w => simp [hw] at h; exact ⟨w, rfl, h.symm⟩
      obtain ⟨w, hw, rfl⟩ := key
      obtain ⟨xs, ys, h4, h5, h6⟩ := eqFs_ok (o + 1) hw hf hl1 hr1
      refine ⟨a :: xs, b :: ys, by simp [toL, h1, h4], by simp [toL, h2, h5], fun X Y hX hY d => ?_⟩
      have gX : X[o]? = some a := by
        have := congrArg (·[0]?) hX; simpa using this
      have gY : Y[o]? = some b := by
        have := congrArg (·[0]?) hY; simpa using this
      have dX : X.drop (o + 1) = xs := by rw [← List.drop_drop, hX]; rfl
      have dY : Y.drop (o + 1) = ys := by rw [← List.drop_drop, hY]; rfl
      have hn' : f.name ≠ "_" := by simpa using hn
      simp only [Op.eqFields]
      rw [if_pos hn']
      simp only [ofSem_bind, ofSem_part ha (show X.toArray[f.offset]? = some a by rw [ho]; simpa using gX), ofSem_part ha (show Y.toArray[f.offset]? = some b by rw [ho]; simpa using gY), h3 d]
      cases u0
      · rfl
      · simpa using h6 X Y dX dY d
  | [], _ :: _, _, _, _, _, _, h, _, _, _ => by simp [eqFs] at h
  | [], [], _ :: _, _, _, _, _, h, _, _, _ => by simp [eqFs] at h
  | _ :: _, [], _, _, _, _, _, h, _, _, _ => by simp [eqFs] at h
  | _ :: _, _ :: _, [], _, _, _, _, h, _, _, _ => by simp [eqFs] at h
theorem eqAgg_ok {t : TypeId} {l r : List (SV (stdA fs ov))} {ll lr : List LV} {u : Bool} (h : eqAgg P t l r = some u) (hl : VSL ν l ll) (hr : VSL ν r lr) (op : BinOp) (xo yo : Operand) :
    ∃ xs ys, toL ll = some xs ∧ toL lr = some ys ∧ ofSem P (eqGuard op t xo yo (.agg xs.toArray) (.agg ys.toArray)) = some () ∧ ofSem P (Op.equal t (.agg xs.toArray) (.agg ys.toArray)) = some u := by
  unfold eqAgg at h
  cases hu : P.underlying t with
  | none => simp [hu] at h
  | some d =>
    cases d <;> simp only [hu] at h <;> try cases h
    case struct fl =>
      cases hc : (flatFs 0 fl.toList && !(P.stoodInHeld t) && !(P.eqGuardType P.depth t))
      · simp [hc] at h
      · simp only [hc, cond_true] at h
        simp only [Bool.and_eq_true, Bool.not_eq_true'] at hc
        obtain ⟨⟨h1, h2⟩, h3⟩ := hc
        obtain ⟨xs, ys, h4, h5, h6⟩ := eqFs_ok (P := P) 0 h h1 hl hr
        refine ⟨xs, ys, h4, h5, ?_, ?_⟩
        · cases op <;> simp [eqGuard, ofSem_bind, ofSem_program, ofSem_pure, h3]
        · show ofSem P (Op.equalIn (9999 + 1) t (.agg xs.toArray) (.agg ys.toArray)) = some u
          rw [equalIn_struct 9999 t _ _ hu h2]
          exact h6 xs ys rfl rfl 9998
end Go.Rx

set_option linter.unusedSimpArgs false
set_option linter.unusedVariables false
set_option linter.unusedSectionVars false
namespace Go.Rx
open Go
variable {fs : Fs} {ov : Bool} {ν : Nm} {P : Program} {T : Al (SV (stdA fs ov))} {L : Tr LV}

theorem evGen_int {op : BinOp} {t : TypeId} {xo yo : Operand} {k k' : IntKind} {a b : Int} (h1 : op ≠ .eql) (h2 : op ≠ .neq) :
    evGen P op t xo yo (.i k a) (.i k' b) = match ofSem P (binOp op t (.int k a) (.int k' b)) with | some v => ofV v | none => none := by
  have hg : ofSem P (eqGuard op t xo yo (.int k a) (.int k' b)) = some () := by cases op <;> simp [eqGuard, ofSem_pure] at h1 h2 ⊢
  show (match ofSem P (do eqGuard op t xo yo (.int k a) (.int k' b); binOp op t (.int k a) (.int k' b)) with | some v => ofV v | none => none) = _
  rw [ofSem_bind, hg]
theorem sInt_ok {op : BinOp} {t : TypeId} {xo yo : Operand} {k : IntKind} {a b : Int} {K : SV (stdA fs ov) → Prop} (h : sInt (A := stdA fs ov) op k a b K) :
    ∃ v lv, evInts P op t xo yo k k a b = some lv ∧ VS ν v lv ∧ K v := by
  have e : evInts P op t xo yo k k a b = match evInt op k a b with | some v => some v | none => evGen P op t xo yo (.i k a) (.i k b) := by unfold evInts; rw [show decide (k = k) = true from by simp]; rfl
  rw [e]
  have bits : ∀ op' : BinOp, op' ≠ .eql → op' ≠ .neq → ∀ n, binOp op' t (.int k a) (.int k b) = (pure (.int k n) : Sem Value) → (match ofSem P (binOp op' t (.int k a) (.int k b)) with | some v => ofV v | none => none) = some (.i k n) := fun op' _ _ n hn => by
    rw [hn]; simp [ofSem_pure, ofV, ofC, nI_eq]
  cases op <;> simp only [sInt] at h
  case add =>
    simp only [evInt, mkInt_eq]
    cases ov
    · exact ⟨.i k _, _, rfl, rfl, h⟩
    · obtain ⟨h1, h2⟩ := h; rw [h1.wrap]; exact ⟨.i k _, _, rfl, rfl, h2⟩
  case sub =>
    simp only [evInt, mkInt_eq]
    cases ov
    · exact ⟨.i k _, _, rfl, rfl, h⟩
    · obtain ⟨h1, h2⟩ := h; rw [h1.wrap]; exact ⟨.i k _, _, rfl, rfl, h2⟩
  case mul =>
    simp only [evInt, mkInt_eq]
    cases ov
    · exact ⟨.i k _, _, rfl, rfl, h⟩
    · obtain ⟨h1, h2⟩ := h; rw [h1.wrap]; exact ⟨.i k _, _, rfl, rfl, h2⟩
  case quo =>
    simp only [evInt]
    rw [evGen_int (by simp) (by simp)]
    have hb : b ≠ 0 := by cases ov <;> exact h.1
    rw [bits .quo (by simp) (by simp) (k.wrap (a.tdiv b)) (by simp [binOp, Op.intDiv, hb])]
    cases ov
    · exact ⟨.i k _, _, rfl, rfl, h.2⟩
    · obtain ⟨_, h1, h2⟩ := h; rw [h1.wrap]; exact ⟨.i k _, _, rfl, rfl, h2⟩
  case rem =>
    simp only [evInt]
    rw [evGen_int (by simp) (by simp)]
    obtain ⟨hb, h2⟩ := h
    rw [bits .rem (by simp) (by simp) (a.tmod b) (by simp [binOp, Op.intDiv, hb])]
    exact ⟨.i k _, _, rfl, rfl, h2⟩
  case and =>
    simp only [evInt]
    rw [evGen_int (by simp) (by simp), bits .and (by simp) (by simp) (bitsI .and k a b) (by simp [binOp, Op.intBits, bitsI])]
    exact ⟨.i k _, _, rfl, rfl, h⟩
  case or =>
    simp only [evInt]
    rw [evGen_int (by simp) (by simp), bits .or (by simp) (by simp) (bitsI .or k a b) (by simp [binOp, Op.intBits, bitsI])]
    exact ⟨.i k _, _, rfl, rfl, h⟩
  case xor =>
    simp only [evInt]
    rw [evGen_int (by simp) (by simp), bits .xor (by simp) (by simp) (bitsI .xor k a b) (by simp [binOp, Op.intBits, bitsI])]
    exact ⟨.i k _, _, rfl, rfl, h⟩
  case andNot =>
    simp only [evInt]
    rw [evGen_int (by simp) (by simp), bits .andNot (by simp) (by simp) (bitsI .andNot k a b) (by simp [binOp, Op.intBits, bitsI])]
    exact ⟨.i k _, _, rfl, rfl, h⟩
  case neq =>
    refine ⟨.b _, .b (a != b), by simp only [evInt, tf_eq], ?_, h⟩
    show LV.b (a != b) = LV.b (decide (a ≠ b))
    by_cases e : a = b <;> simp [e]
  all_goals first
    | exact h.elim
    | exact ⟨.b _, _, by simp only [evInt, tf_eq]; rfl, rfl, h⟩
theorem sEq_ok {neg : Bool} {x : Option Bool} {K : SV (stdA fs ov) → Prop} (h : sEq (A := stdA fs ov) neg x K) : ∃ u, x = some u ∧ K (.b (if neg then !u else u)) := by
  cases x with
  | none => exact h.elim
  | some u => refine ⟨u, rfl, ?_⟩; cases neg <;> exact h
theorem evGen_scal {neg : Bool} {t : TypeId} {xo yo : Operand} {lx ly : LV} {a b : Value} {u : Bool} (h1 : toV lx = some a) (h2 : toV ly = some b) (hg : ∀ op, ofSem P (eqGuard op t xo yo a b) = some ())
    (hb : ∀ op, op = .eql ∨ op = .neq → binOp op t a b = (do let r ← Op.equal t a b; pure (.bool (if op = .neq then !r else r)) : Sem Value)) (he : ofSem P (Op.equal t a b) = some u) (op : BinOp) (ho : op = .eql ∧ neg = false ∨ op = .neq ∧ neg = true) :
    evGen P op t xo yo lx ly = some (.b (if neg then !u else u)) := by
  unfold evGen
  simp only [h1, h2]
  rw [ofSem_bind, hg]
  simp only
  rw [hb op (by rcases ho with ⟨h, _⟩ | ⟨h, _⟩ <;> simp [h]), ofSem_bind, he]
  rcases ho with ⟨rfl, rfl⟩ | ⟨rfl, rfl⟩ <;> simp [ofSem_pure, ofV, ofC]
theorem sBin_ok {op : BinOp} {t : TypeId} {xo yo : Operand} {x y : SV (stdA fs ov)} {lx ly : LV} {K : SV (stdA fs ov) → Prop} (h : sBin P op t x y K) (hx : VS ν x lx) (hy : VS ν y ly) :
    ∃ v lv, evBin P op t xo yo lx ly = some lv ∧ VS ν v lv ∧ K v := by
  unfold sBin at h
  split at h
  · rename_i k a k' b
    obtain ⟨h0, h⟩ := h
    have h0 : (0 : Int) ≤ b := h0
    obtain rfl := hx; obtain rfl := hy
    have e : evBin P .shl t xo yo (.i k a) (.i k' b) = evGen P .shl t xo yo (.i k a) (.i k' b) := by
      simp only [evBin, evInts, evInt]; cases decide (k = k') <;> rfl
    have : ¬ @LT.lt Int _ b 0 := Int.not_lt.2 h0
    rw [e, evGen_int (by simp) (by simp)]
    refine ⟨.i k _, .i k (shI .shl k a b), ?_, rfl, h⟩
    simp [binOp, Op.shift, this, ofSem_pure, ofV, ofC, nI_eq, shI]
  · rename_i k a k' b
    obtain ⟨h0, h⟩ := h
    have h0 : (0 : Int) ≤ b := h0
    obtain rfl := hx; obtain rfl := hy
    have e : evBin P .shr t xo yo (.i k a) (.i k' b) = evGen P .shr t xo yo (.i k a) (.i k' b) := by
      simp only [evBin, evInts, evInt]; cases decide (k = k') <;> rfl
    have : ¬ @LT.lt Int _ b 0 := Int.not_lt.2 h0
    rw [e, evGen_int (by simp) (by simp)]
    refine ⟨.i k _, .i k (shI .shr k a b), ?_, rfl, h⟩
    simp [binOp, Op.shift, this, ofSem_pure, ofV, ofC, nI_eq, shI]
  · rename_i op k a k' b _ _
    cases hk : decide (k = k')
    · simp only [hk, cond_false] at h <;> exact h.elim
    · simp only [hk, cond_true] at h
      obtain rfl : k = k' := by simpa using hk
      obtain rfl := hx; obtain rfl := hy
      exact sInt_ok h
  · rename_i x y
    obtain ⟨u, hu, hK⟩ := sEq_ok h
    obtain ⟨_, a, b, h1, h2, h3⟩ := eqAt_ok hu hx hy
    obtain rfl := hx; obtain rfl := hy
    cases h1; cases h2
    refine ⟨.b _, .b _, ?_, rfl, hK⟩
    exact evGen_scal (neg := false) (lx := .b x) (ly := .b y) rfl rfl (fun op => by cases op <;> simp [eqGuard, ofSem_pure]) (fun op ho => by rcases ho with rfl | rfl <;> simp [binOp]) (h3 9999) .eql (.inl ⟨rfl, rfl⟩)
  · rename_i x y
    obtain ⟨u, hu, hK⟩ := sEq_ok h
    obtain ⟨_, a, b, h1, h2, h3⟩ := eqAt_ok hu hx hy
    obtain rfl := hx; obtain rfl := hy
    cases h1; cases h2
    refine ⟨.b _, .b _, ?_, rfl, hK⟩
    exact evGen_scal (neg := true) (lx := .b x) (ly := .b y) rfl rfl (fun op => by cases op <;> simp [eqGuard, ofSem_pure]) (fun op ho => by rcases ho with rfl | rfl <;> simp [binOp]) (h3 9999) .neq (.inr ⟨rfl, rfl⟩)
  · rename_i l r
    obtain ⟨u, hu, hK⟩ := sEq_ok h
    obtain ⟨ll, rfl, hl⟩ := hx
    obtain ⟨lr, rfl, hr⟩ := hy
    obtain ⟨xs, ys, h1, h2, _, h4⟩ := eqAgg_ok hu hl hr .eql xo yo
    refine ⟨.b _, .b _, ?_, rfl, hK⟩
    exact evGen_scal (neg := false) (by simp [toV, h1]) (by simp [toV, h2]) (fun op => (eqAgg_ok hu hl hr op xo yo).elim fun xs' ⟨ys', e1, e2, e3, _⟩ => by rw [h1] at e1; rw [h2] at e2; cases e1; cases e2; exact e3) (fun op ho => by rcases ho with rfl | rfl <;> simp [binOp]) h4 .eql (.inl ⟨rfl, rfl⟩)
  · rename_i l r
    obtain ⟨u, hu, hK⟩ := sEq_ok h
    obtain ⟨ll, rfl, hl⟩ := hx
    obtain ⟨lr, rfl, hr⟩ := hy
    obtain ⟨xs, ys, h1, h2, _, h4⟩ := eqAgg_ok hu hl hr .neq xo yo
    refine ⟨.b _, .b _, ?_, rfl, hK⟩
    exact evGen_scal (neg := true) (by simp [toV, h1]) (by simp [toV, h2]) (fun op => (eqAgg_ok hu hl hr op xo yo).elim fun xs' ⟨ys', e1, e2, e3, _⟩ => by rw [h1] at e1; rw [h2] at e2; cases e1; cases e2; exact e3) (fun op ho => by rcases ho with rfl | rfl <;> simp [binOp]) h4 .neq (.inr ⟨rfl, rfl⟩)
  · exact h.elim
theorem sUn_ok {op : UnOp} {x : SV (stdA fs ov)} {lx : LV} {K : SV (stdA fs ov) → Prop} (h : sUn op x K) (hx : VS ν x lx) :
    ∃ v lv, (match toV lx with | some a => (match ofSem P (Op.unary op a) with | some v => ofV v | none => none) | none => none) = some lv ∧ VS ν v lv ∧ K v := by
  unfold sUn at h
  split at h
  · obtain rfl := hx
    exact ⟨.b _, .b _, rfl, rfl, h⟩
  · rename_i k n
    obtain rfl := hx
    have e : (match toV (.i k n) with | some a => (match ofSem P (Op.unary .neg a) with | some v => ofV v | none => none) | none => none) = some (.i k (k.wrap (0 - n))) := by
      show ofV (.int k (k.wrap (0 - n))) = _
      simp [ofV, ofC, nI_eq]
    rw [e]
    cases ov
    · exact ⟨.i k _, _, rfl, rfl, h⟩
    · obtain ⟨h1, h2⟩ := h; rw [h1.wrap]; exact ⟨.i k _, _, rfl, rfl, h2⟩
  · rename_i k n
    obtain rfl := hx
    have e : (match toV (.i k n) with | some a => (match ofSem P (Op.unary .xor a) with | some v => ofV v | none => none) | none => none) = some (.i k (notI k n)) := by
      show ofV (.int k (notI k n)) = _
      simp [ofV, ofC, nI_eq]
    rw [e]
    exact ⟨.i k _, _, rfl, rfl, h⟩
  · exact h.elim
theorem sConv_ok {s d : TypeId} {x : SV (stdA fs ov)} {lx : LV} {K : SV (stdA fs ov) → Prop} (h : sConv P s d x K) (hx : VS ν x lx) :
    ∃ v lv, (match toV lx with | some a => (match ofSem P (convert s d a) with | some v => ofV v | none => none) | none => none) = some lv ∧ VS ν v lv ∧ K v := by
  unfold sConv at h
  split at h
  · rename_i k0 k k1 n hs hd
    obtain rfl := hx
    have e : ofSem P (convert s d (.int k1 n)) = some (.int k (k.wrap n)) := by
      unfold convert
      rw [ofSem_bind, ofSem_under hs]
      simp only
      rw [ofSem_bind, ofSem_under hd]
      rfl
    have e' : (match toV (.i k1 n) with | some a => (match ofSem P (convert s d a) with | some v => ofV v | none => none) | none => none) = some (.i k (k.wrap n)) := by
      show (match ofSem P (convert s d (.int k1 n)) with | some v => ofV v | none => none) = _
      rw [e]; simp [ofV, ofC, nI_eq]
    rw [e']
    cases ov
    · exact ⟨.i k _, _, rfl, rfl, h⟩
    · obtain ⟨h1, h2⟩ := h; rw [h1.wrap]; exact ⟨.i k _, _, rfl, rfl, h2⟩
  · exact h.elim

/-! ### Indices, addresses, fields -/
theorem fan_ok {n : Int} {K : Nat → Prop} : ∀ {m j : Nat}, fan (A := stdA fs ov) n K m j → (j : Int) ≤ n → n < j + m → K n.toNat
  | 0, _, h, _, _ => h.elim
  | 1, j, h, h1, h2 => by
    have : n.toNat = j := by omega
    rw [this]; exact h
  | m + 2, j, h, h1, h2 => by
    have h' : cond (decide (n = (j : Int))) (K j) (fan (A := stdA fs ov) n K (m + 1) (j + 1)) := h
    by_cases e : n = (j : Int)
    · rw [decide_eq_true e] at h'
      have : n.toNat = j := by omega
      rw [this]; exact h'
    · rw [decide_eq_false e] at h'
      exact fan_ok h' (by omega) (by omega)
theorem idx_int {k : IntKind} {n : Int} {len : Nat} (h0 : 0 ≤ n) (h1 : n < len) : idx (.i k n) len = some n.toNat := by
  obtain ⟨m, rfl⟩ := Int.eq_ofNat_of_zero_le h0
  have : Nat.blt m len = true := by simp; omega
  simp [idx, this]
theorem sIdx_ok {v : SV (stdA fs ov)} {lv : LV} {len : Nat} {K : Nat → Prop} (h : sIdx v len K) (hv : VS ν v lv) : ∃ n, idx lv len = some n ∧ K n := by
  unfold sIdx at h
  split at h
  · rename_i k n
    obtain rfl := hv
    obtain ⟨h0, h1, h2⟩ := h
    exact ⟨_, idx_int h0 h1, fan_ok h2 h0 (by have : @LT.lt Int _ n (len : Int) := h1; simpa using this)⟩
  · exact h.elim
theorem addr_some {id off n z : Nat} : addr id off (some n) (some z) = some (.p id (off + n * z)) := by simp [addr, nN_eq]
theorem sIAddr_ok {t : TypeId} {x ix : SV (stdA fs ov)} {xo io : Operand} {lx li : LV} {K : SV (stdA fs ov) → Prop} (h : sIAddr P t x ix K) (hx : VS ν x lx) (hi : VS ν ix li) (ex : evO L xo = some lx) (ei : evO L io = some li) :
    ∃ v lv, evIAddr P L t xo io = some lv ∧ VS ν v lv ∧ K v := by
  unfold sIAddr at h
  unfold evIAddr
  simp only [ex, ei]
  split at h
  · rename_i ix e id off len c hu
    obtain ⟨r, hr, rfl⟩ := hx
    cases hs : szOf P e with
    | none => simp only [hs] at h <;> exact h.elim
    | some z =>
      simp only [hs] at h
      obtain ⟨n, h1, h2⟩ := sIdx_ok h hi
      simp only [hu, h1, hs, addr_some]
      exact ⟨.p id (off + n * z), .p r (off + n * z), rfl, ⟨r, hr, rfl⟩, h2⟩
  · rename_i e own id n k i hu
    cases hs : szOf P e with
    | none => simp only [hs] at h <;> exact h.elim
    | some z =>
      simp only [hs] at h
      obtain ⟨h0, h1, h2⟩ := h
      have h0 : @LE.le Int _ 0 i := h0
      have h1 : @LT.lt Int _ i n := h1
      obtain rfl := hi
      obtain ⟨hn, ⟨rfl, h3⟩ | ⟨r, o, hr, ⟨rfl, rfl⟩ | ⟨_, c, hc, rfl⟩⟩⟩ := hx
      · have h3 : @Eq Int n 0 := h3
        omega
      · simp only [hu, idx_int h0 (show @LT.lt Int _ i ((Int.toNat n : Nat) : Int) by omega), hs, addr_some]
        exact ⟨.pe id z i 0, .p r (0 + Int.toNat i * z), rfl, ⟨r, 0, hr, h0, by simp⟩, h2⟩
      · simp only [hu, idx_int h0 (show @LT.lt Int _ i ((Int.toNat n : Nat) : Int) by omega), hs, addr_some]
        exact ⟨.pe id z i 0, .p r (o + Int.toNat i * z), rfl, ⟨r, o, hr, h0, by simp⟩, h2⟩
  · rename_i ix n e id off hu
    obtain ⟨r, hr, rfl⟩ := hx
    cases hs : szOf P e with
    | none => simp only [hs] at h <;> exact h.elim
    | some z =>
      simp only [hs] at h
      obtain ⟨m, h1, h2⟩ := sIdx_ok h hi
      simp only [hu, h1, hs, addr_some]
      exact ⟨.p id (off + m * z), .p r (off + m * z), rfl, ⟨r, hr, rfl⟩, h2⟩
  · exact h.elim
theorem sFAddr_ok {t : TypeId} {x v : SV (stdA fs ov)} {xo : Operand} {lx : LV} {f : Nat} (h : sFAddr P t x f = some v) (hx : VS ν x lx) (ex : evO L xo = some lx) : ∃ lv, evFAddr P L t xo f = some lv ∧ VS ν v lv := by
  unfold sFAddr at h
  unfold evFAddr
  simp only [ex]
  split at h
  · rename_i id off f' hf
    obtain ⟨r, hr, rfl⟩ := hx
    split at h
    · rename_i z hz
      simp at h; subst h
      simp only [hf, hz, nN_eq]
      exact ⟨_, rfl, r, hr, rfl⟩
    · cases h
  · rename_i id z i j f' hf
    obtain ⟨r, o, hr, h0, rfl⟩ := hx
    split at h
    · rename_i z' hz
      simp at h; subst h
      simp only [hf, hz, nN_eq]
      exact ⟨_, rfl, r, o, hr, h0, by rw [Nat.add_assoc]⟩
    · cases h
  · cases h
theorem sField_ok {t : TypeId} {x v : SV (stdA fs ov)} {xo : Operand} {lx : LV} {f : Nat} (h : sField P t x f = some v) (hx : VS ν x lx) (ex : evO L xo = some lx) : ∃ lv, evField P L t xo f = some lv ∧ VS ν v lv := by
  unfold sField at h
  unfold evField
  simp only [ex]
  split at h
  · rename_i cs
    obtain ⟨l', rfl, hl⟩ := hx
    cases hf : fieldOf P t f with
    | none => simp [hf] at h
    | some f' => simp only [hf] at h ⊢; exact sPrt_ok h hl
  · cases h
theorem sIndexA_ok {t : TypeId} {x ix : SV (stdA fs ov)} {xo io : Operand} {lx li : LV} {K : SV (stdA fs ov) → Prop} (h : sIndexA P t x ix K) (hx : VS ν x lx) (hi : VS ν ix li) (ex : evO L xo = some lx) (ei : evO L io = some li) :
    ∃ v lv, evIndex P L t xo io = some lv ∧ VS ν v lv ∧ K v := by
  unfold sIndexA at h
  unfold evIndex
  split at h
  · rename_i n e cs hu
    obtain ⟨l', rfl, hl⟩ := hx
    cases hs : szOf P e with
    | none => simp only [hs] at h <;> exact h.elim
    | some z =>
      simp only [hs] at h
      obtain ⟨m, h1, h2⟩ := sIdx_ok h hi
      obtain ⟨v, h3, h4⟩ := opt_ok h2
      obtain ⟨lv, h5, h6⟩ := sPrt_ok h3 hl
      simp only [hu, evIdxA, ex, ei, h1, hs]
      exact ⟨v, lv, h5, h6, h4⟩
  · exact h.elim
theorem bnds_none {len cap : Nat} : bnds L len cap none none none = some (0, len, cap) := rfl
theorem sSlice_ok {t : TypeId} {x v : SV (stdA fs ov)} {lo hi mx : Option Operand} {lx : LV} (h : sSlice P t x lo hi mx = some v) (hx : VS ν x lx) : ∃ lv, evSlice P L t lx lo hi mx = some lv ∧ VS ν v lv := by
  unfold sSlice at h
  unfold evSlice
  split at h
  · rename_i n e id off hu
    obtain ⟨r, hr, rfl⟩ := hx
    cases hs : szOf P e with
    | none => simp [hs] at h
    | some z =>
      simp only [hs] at h
      cases hb : Nat.beq n 0
      · simp [hb] at h; subst h
        simp [hu, hs, bnds_none, nN_eq, hb]
        exact ⟨r, hr, rfl⟩
      · simp [hb] at h
  · rename_i e own id n hu
    cases hs : szOf P e with
    | none => simp [hs] at h
    | some z =>
      simp [hs] at h; subst h
      have hx' := hx
      obtain ⟨hn, ⟨rfl, h3⟩ | ⟨r, o, hr, ⟨rfl, rfl⟩ | ⟨_, c, hc, rfl⟩⟩⟩ := hx'
      · exact ⟨.nils, by simp [hu, hs, bnds_none], hx⟩
      · exact ⟨.gs r 0 0 n.toNat, by simp [hu, hs, bnds_none, nN_eq], hx⟩
      · have hle : Nat.ble n.toNat c = true := by simpa using hc
        refine ⟨.sl r o n.toNat c, ?_, hx⟩
        cases hb : Nat.beq c 0
        · simp [hu, hs, bnds_none, nN_eq, hle, hb]
        · have : c = 0 := (beq_iff _ _).1 hb
          subst this
          simp [hu, hs, bnds_none, nN_eq, hle]
  · rename_i e id off len cap hu
    obtain ⟨r, hr, rfl⟩ := hx
    cases hs : szOf P e with
    | none => simp [hs] at h
    | some z =>
      simp only [hs] at h
      cases hb : Nat.ble (len + 1) cap
      · simp [hb] at h
      · simp [hb] at h; subst h
        have hc : Nat.beq cap 0 = false := (beq_false _ _).2 (fun e => by subst e; simp at hb)
        refine ⟨.sl r off (len + 1) cap, ?_, r, hr, rfl⟩
        simp [hu, hs, bnds_none, nN_eq, hb, hc]
  · cases h
theorem sPure_ok (hF : FS ν T L) {op : Op} {K : SV (stdA fs ov) → Prop} (h : sPure P T op K) : ∃ v lv, evPure P L op = some lv ∧ VS ν v lv ∧ K v := by
  cases op <;> simp only [sPure] at h <;> try exact h.elim
  case move x =>
    obtain ⟨v, h1, h2⟩ := opt_ok h
    obtain ⟨lv, h3, h4⟩ := sO_ok hF h1
    exact ⟨v, lv, h3, h4, h2⟩
  case assign x =>
    obtain ⟨v, h1, h2⟩ := opt_ok h
    obtain ⟨lv, h3, h4⟩ := sO_ok hF h1
    exact ⟨v, lv, h3, h4, h2⟩
  case pick c x y =>
    simp only [sPick] at h
    split at h
    · rename_i b hc
      obtain ⟨lc, h1, h2⟩ := sO_ok hF hc
      obtain rfl := h2
      have h' : cond b (opt (sO T x) "pick" K) (opt (sO T y) "pick" K) := h
      cases b
      · obtain ⟨v, h3, h4⟩ := opt_ok h'
        obtain ⟨lv, h5, h6⟩ := sO_ok hF h3
        exact ⟨v, lv, by simp [evPure, evPick, h1, h5], h6, h4⟩
      · obtain ⟨v, h3, h4⟩ := opt_ok h'
        obtain ⟨lv, h5, h6⟩ := sO_ok hF h3
        exact ⟨v, lv, by simp [evPure, evPick, h1, h5], h6, h4⟩
    · exact h.elim
  case build t ps =>
    obtain ⟨v, h1, h2⟩ := opt_ok h
    split at h1
    · rename_i z l hz hl
      obtain ⟨lz, h3, h4⟩ := sZero_ok (ν := ν) hz
      obtain ⟨ll, h5, h6⟩ := sPartsO_ok hF hl
      cases hb : sBuildAt P t z.cells l with
      | none => simp [hb] at h1
      | some cs =>
        simp [hb] at h1; subst h1
        obtain ⟨lr, h7, h8⟩ := sBuildAt_ok hb h4.cells h6
        exact ⟨.agg cs, .agg lr, by simp [evPure, evBuild, h3, h5, h7], ⟨lr, rfl, h8⟩, h2⟩
    · cases h1
  case nilCheck x =>
    obtain ⟨v, h1, h2⟩ := opt_ok h
    cases hx : sO T x with
    | none => simp [hx] at h1
    | some u =>
      simp only [hx] at h1
      obtain ⟨lu, h3, h4⟩ := sO_ok hF hx
      unfold sNil at h1
      split at h1
      · simp at h1; subst h1
        obtain ⟨r, hr, rfl⟩ := h4
        exact ⟨.p _ _, .p r _, by simp [evPure, evNil, h3], ⟨r, hr, rfl⟩, h2⟩
      · simp at h1; subst h1
        obtain ⟨r, o, hr, h0, rfl⟩ := h4
        exact ⟨.pe _ _ _ _, .p r _, by simp [evPure, evNil, h3], ⟨r, o, hr, h0, rfl⟩, h2⟩
      · simp at h1; subst h1
        obtain ⟨a, c, rfl, ha, hc⟩ := h4
        exact ⟨.fn _ _ _, .fn _ a c, by simp [evPure, evNil, h3], ⟨a, c, rfl, ha, hc⟩, h2⟩
      · simp at h1; subst h1
        obtain ⟨r, hr, rfl⟩ := h4
        exact ⟨.yld _, .yld r, by simp [evPure, evNil, h3], ⟨r, hr, rfl⟩, h2⟩
      · cases h1
  case binOp op t x y yt =>
    unfold o2 at h
    split at h
    · rename_i a b ha hb
      obtain ⟨la, h1, h2⟩ := sO_ok hF ha
      obtain ⟨lb, h3, h4⟩ := sO_ok hF hb
      obtain ⟨v, lv, h5, h6, h7⟩ := sBin_ok (xo := x) (yo := y) h h2 h4
      exact ⟨v, lv, by simp [evPure, evBinO, h1, h3, h5], h6, h7⟩
    · exact h.elim
  case unOp op t x =>
    split at h
    · rename_i a ha
      obtain ⟨la, h1, h2⟩ := sO_ok hF ha
      obtain ⟨v, lv, h3, h4, h5⟩ := sUn_ok (P := P) h h2
      exact ⟨v, lv, by simp only [evPure, evUn, h1]; exact h3, h4, h5⟩
    · exact h.elim
  case convert s d x =>
    split at h
    · rename_i a ha
      obtain ⟨la, h1, h2⟩ := sO_ok hF ha
      obtain ⟨v, lv, h3, h4, h5⟩ := sConv_ok (P := P) h h2
      exact ⟨v, lv, by simp only [evPure, evConv, h1]; exact h3, h4, h5⟩
    · exact h.elim
  case makeFunc f x c =>
    cases f <;> simp only at h <;> try exact h.elim
    split at h
    · rename_i f a b ha hb
      obtain ⟨la, h1, h2⟩ := sOs_ok hF ha
      obtain ⟨lb, h3, h4⟩ := sOs_ok hF hb
      exact ⟨.fn _ _ _, .fn _ la lb, by simp [evPure, evMkFn, h1, h3], ⟨la, lb, rfl, h2, h4⟩, h⟩
    · exact h.elim
  case slice t x lo hi mx =>
    obtain ⟨v, h1, h2⟩ := opt_ok h
    cases hx : sO T x with
    | none => simp [hx] at h1
    | some u =>
      simp only [hx] at h1
      obtain ⟨lu, h3, h4⟩ := sO_ok hF hx
      obtain ⟨lv, h5, h6⟩ := sSlice_ok (L := L) h1 h4
      exact ⟨v, lv, by simp [evPure, evSliceO, h3, h5], h6, h2⟩
  case fieldAddr t x f =>
    obtain ⟨v, h1, h2⟩ := opt_ok h
    cases hx : sO T x with
    | none => simp [hx] at h1
    | some u =>
      simp only [hx] at h1
      obtain ⟨lu, h3, h4⟩ := sO_ok hF hx
      obtain ⟨lv, h5, h6⟩ := sFAddr_ok h1 h4 h3
      exact ⟨v, lv, h5, h6, h2⟩
  case field t x f =>
    obtain ⟨v, h1, h2⟩ := opt_ok h
    cases hx : sO T x with
    | none => simp [hx] at h1
    | some u =>
      simp only [hx] at h1
      obtain ⟨lu, h3, h4⟩ := sO_ok hF hx
      obtain ⟨lv, h5, h6⟩ := sField_ok h1 h4 h3
      exact ⟨v, lv, h5, h6, h2⟩
  case indexAddr t x ix =>
    unfold o2 at h
    split at h
    · rename_i a b ha hb
      obtain ⟨la, h1, h2⟩ := sO_ok hF ha
      obtain ⟨lb, h3, h4⟩ := sO_ok hF hb
      exact sIAddr_ok h h2 h4 h1 h3
    · exact h.elim
  case index t x ix =>
    unfold o2 at h
    split at h
    · rename_i a b ha hb
      obtain ⟨la, h1, h2⟩ := sO_ok hF ha
      obtain ⟨lb, h3, h4⟩ := sO_ok hF hb
      exact sIndexA_ok h h2 h4 h1 h3
    · exact h.elim
  case extract x k =>
    obtain ⟨v, h1, h2⟩ := opt_ok h
    split at h1
    · rename_i l hx
      obtain ⟨lu, h3, h4⟩ := sO_ok hF hx
      obtain ⟨l', rfl, hl⟩ := h4
      obtain ⟨lv, h5, h6⟩ := hl.get h1
      exact ⟨v, lv, by simp [evPure, evExtract, h3, at_eq, h5], h6, h2⟩
    · cases h1
end Go.Rx

set_option linter.unusedSimpArgs false
set_option linter.unusedVariables false
set_option linter.unusedSectionVars false
namespace Go.Rx
open Go
variable {fs : Fs} {ov : Bool} {ν : Nm} {P : Program} {T : Al (SV (stdA fs ov))} {L : Tr LV} {M : SH (stdA fs ov)} {H : Hp} {snx nx : Nat}

/-- What an operation or a call has left, and what the symbolic run says of it. -/
structure Got (ν : Nm) (snx : Nat) (H : Hp) (nx : Nat) (ν' : Nm) (v : SV (stdA fs ov)) (M' : SH (stdA fs ov)) (snx' : Nat) (wr : List Nat) (r : Out) : Prop where
  lo : Lo snx ν ν'
  nw : ∀ id q o, snx ≤ id → ν' id = some (q, o) → nx ≤ q
  up : nx ≤ r.nx
  sup : snx ≤ snx'
  hs : HS ν' M' snx' r.H r.nx
  v : VS ν' v r.v
  wr : ∀ q ∈ r.wr, ∃ id ∈ wr, ∃ o, ν id = some (q, o)
  keep : ∀ q, q < nx → q ∉ r.wr → r.H.get q = H.get q
  has : ∀ q ∈ r.wr, nx ≤ q ∨ ∃ o, H.get q = some o
  same : r.nx ≠ nx → snx' ≠ snx
theorem HS.le {ν' : Nm} (h : HS ν M snx H nx) (hl : Lo snx ν ν') : NLe ν ν' := fun id x hx => by
  obtain ⟨r, o⟩ := x
  rw [hl id (h.lt id r o hx).2, hx]
theorem got_same (h : HS ν M snx H nx) {v : SV (stdA fs ov)} {lv : LV} (hv : VS ν v lv) : Got ν snx H nx ν v M snx [] ⟨lv, H, nx, []⟩ :=
  ⟨fun _ _ => rfl, fun id q o h1 h2 => by have := (h.lt id q o h2).2; omega, Nat.le_refl _, Nat.le_refl _, h, hv, fun q hq => (by cases hq), fun q _ _ => rfl, fun q hq => (by cases hq), fun h => absurd rfl h⟩
/-- What came of it. -/
def GotBy (ν : Nm) (snx : Nat) (H : Hp) (nx : Nat) (K : KS (stdA fs ov)) (r : Option Out) : Prop := ∃ (o : Out) (ν' : Nm) (v : SV (stdA fs ov)) (M' : SH (stdA fs ov)) (snx' : Nat) (wr : List Nat), r = some o ∧ Got ν snx H nx ν' v M' snx' wr o ∧ K v M' snx' wr

theorem cellAt_ok {ks : List CK} {h : Ll} {i : Int} {j : Nat} {v : SV (stdA fs ov)} (hc : cellAt (A := stdA fs ov) ks h i j = some v) : ∃ k, ks[j]? = some k ∧ VS ν v (cellLV k (h.get i j)) := by
  unfold cellAt at hc
  split at hc
  · rename_i k hk; simp at hc; subst hc; exact ⟨_, hk, rfl⟩
  · rename_i hk; simp at hc; subst hc; exact ⟨_, hk, rfl⟩
  · cases hc
theorem kn_cell (k : CK) (n : Int) : (cellLV k n).kn = true := by cases k <;> rfl
theorem cellsAt_ok {ks : List CK} {h : Ll} {i : Int} {lcs : List LV} {o : Nat} (hi : 0 ≤ i) (hl : i < h.length) (hc : cellsOK lcs o ks h) : ∀ {n j : Nat} {r : List (SV (stdA fs ov))}, cellsAt (A := stdA fs ov) ks h i n j = some r →
    ∃ rs, tk n (lcs.drop (o + i.toNat * ks.length + j)) = some rs ∧ VSL ν r rs ∧ allKn rs = true
  | 0, j, r, h => by simp [cellsAt] at h; subst h; exact ⟨[], by simp [tk], rfl, rfl⟩
  | n + 1, j, r, h => by
    simp only [cellsAt] at h
    rename_i h0
    cases hv : cellAt (A := stdA fs ov) ks h0 i j with
    | none => simp [hv] at h
    | some v =>
      cases hr : cellsAt (A := stdA fs ov) ks h0 i n (j + 1) with
      | none => simp [hv, hr] at h
      | some m =>
        simp [hv, hr] at h; subst h
        obtain ⟨k, hk, hvs⟩ := cellAt_ok (ν := ν) hv
        obtain ⟨rs, h1, h2, h3⟩ := cellsAt_ok hi hl hc hr
        have := hc i.toNat j k (by omega) hk
        rw [show ((i.toNat : Nat) : Int) = i by omega] at this
        obtain ⟨hlt, he⟩ := List.getElem?_eq_some_iff.1 this
        rw [List.drop_eq_getElem_cons hlt, he]
        refine ⟨_ :: rs, ?_, VSL.cons hvs h2, by simp only [allKn, kn_cell]; exact h3⟩
        simp only [tk]
        rw [show o + i.toNat * ks.length + j + 1 = o + i.toNat * ks.length + (j + 1) by omega, h1]
theorem elemAt_ok {ks : List CK} {h : Ll} {i : Int} {j : Nat} {lcs : List LV} {o : Nat} {t : TypeId} {v : SV (stdA fs ov)} (hi : 0 ≤ i) (hl : i < h.length) (hc : cellsOK lcs o ks h) (he : elemAt (A := stdA fs ov) P t ks h i j = some v) :
    ∃ lv, prt P t lcs (o + i.toNat * ks.length + j) = some lv ∧ VS ν v lv ∧ allKn lv.cells = true := by
  unfold elemAt at he
  unfold prt
  cases ha : isAg P t with
  | none => simp [ha] at he
  | some b =>
    cases b with
    | false =>
      simp [ha, at_eq] at he ⊢
      obtain ⟨k, hk, hvs⟩ := cellAt_ok (ν := ν) he
      have := hc i.toNat j k (by omega) hk
      rw [show ((i.toNat : Nat) : Int) = i by omega] at this
      exact ⟨_, this, hvs, by cases k <;> rfl⟩
    | true =>
      cases hs : szOf P t with
      | none => simp [ha, hs] at he
      | some n =>
        cases hr : cellsAt (A := stdA fs ov) ks h i n j with
        | none => simp [ha, hs, hr] at he
        | some r =>
          simp [ha, hs, hr] at he; subst he
          obtain ⟨rs, h1, h2, h3⟩ := cellsAt_ok (ν := ν) hi hl hc hr
          simp only [dp_eq, h1]
          exact ⟨_, rfl, ⟨rs, rfl, h2⟩, h3⟩
theorem sLoad_val (hF : FS ν T L) {t : TypeId} {x : Operand} {K : KS (stdA fs ov)} {H' : Hp} (hO : ∀ id so, looks T (.load t x) = some (some id) → M.get id = some so → OS ν H' id so) (h : sLoad P T M snx t x K) :
    ∃ v lv, evLoad P L H' nx t x = some ⟨lv, H', nx, []⟩ ∧ VS ν v lv ∧ K v M snx [] := by
  unfold sLoad at h
  split at h
  · rename_i id off hx
    obtain ⟨lx, h1, h2⟩ := sO_ok hF hx
    obtain ⟨r, hr, rfl⟩ := h2
    split at h
    · rename_i u cs hg
      obtain ⟨v, h3, h4⟩ := opt_ok h
      obtain ⟨r', lcs, hr', hH, hcs⟩ := hO id _ (by simp [looks, hx]) hg
      rw [hr] at hr'; cases hr'
      obtain ⟨lv, h5, h6⟩ := sPrt_ok h3 hcs
      exact ⟨v, lv, by simp [evLoad, h1, hH, LO.cs, h5], h6, h4⟩
    · exact h.elim
  · rename_i id z i j hx
    obtain ⟨lx, h1, h2⟩ := sO_ok hF hx
    obtain ⟨r, o, hr, h0, rfl⟩ := h2
    split at h
    · rename_i u ks own hh hg
      cases hz : Nat.beq ks.length z
      · simp only [hz, cond_false] at h <;> exact h.elim
      · simp only [hz, cond_true] at h
        obtain rfl : ks.length = z := (beq_iff _ _).1 hz
        obtain ⟨hi, h⟩ := h
        have hi : @LT.lt Int _ i (hh.length : Int) := hi
        have h0 : @LE.le Int _ 0 i := h0
        obtain ⟨v, h3, h4⟩ := opt_ok h
        obtain ⟨_, hd, _⟩ := hO id _ (by simp [looks, hx]) hg
        rcases hd with hd | ⟨r', o', lo, hr', hH, hd⟩
        · omega
        · rw [hr] at hr'; cases hr'
          rcases hd with ⟨lcs, hc, hok⟩ | ⟨base, cs, rfl, hle, hok⟩
          · obtain ⟨lv, h5, h6, h7⟩ := elemAt_ok (ν := ν) h0 hi hok h3
            exact ⟨v, lv, by simp [evLoad, h1, hH, hc, h5], h6, h4⟩
          · obtain ⟨lv, h5, h6, h7⟩ := elemAt_ok (ν := ν) h0 hi hok h3
            have hb : Nat.ble base (o + Int.toNat i * ks.length + j) = true := by simp; omega
            refine ⟨v, lv, ?_, h6, h4⟩
            simp only [evLoad, h1, hH, LO.cs, hb, cond_true]
            rw [show o + Int.toNat i * ks.length + j - base = o - base + Int.toNat i * ks.length + j by omega, h5]
            simp only [h7, cond_true]
    · exact h.elim
  · exact h.elim
theorem VSL.one : ∀ {l : List (SV (stdA fs ov))} {vs : List LV}, VSL ν l vs → sAllOne l = true → allOne vs = true
  | [], vs, h, _ => by rw [h]; rfl
  | x :: l, vs, h, h1 => by
    obtain ⟨y, r, rfl, hx, hl⟩ := h
    have hb : x.one = true ∧ sAllOne l = true := by
      simp only [sAllOne] at h1
      cases hxo : x.one <;> simp [hxo] at h1
      exact ⟨rfl, h1⟩
    have hy : y.one = true := by
      cases x with
      | agg l => exact absurd hb.1 (by simp [SV.one])
      | tup l => exact absurd hb.1 (by simp [SV.one])
      | fn f a c => obtain ⟨a', c', rfl, _, _⟩ := hx; rfl
      | p id off => obtain ⟨r, h1, rfl⟩ := hx; rfl
      | yld id => obtain ⟨r, h1, rfl⟩ := hx; rfl
      | pe id z i j => obtain ⟨r, o, h1, h2, rfl⟩ := hx; rfl
      | sl id off len cap => obtain ⟨r, h1, rfl⟩ := hx; rfl
      | ls own id n => obtain ⟨h0, ⟨rfl, _⟩ | ⟨r, o, _, ⟨_, rfl⟩ | ⟨_, c, _, rfl⟩⟩⟩ := hx <;> rfl
      | _ => subst hx; rfl
    simp only [allOne, hy]
    exact VSL.one hl hb.2
/-- One block is written anew. -/
theorem hs_write (hM : HS ν M snx H nx) {id r : Nat} {so so' : SO (stdA fs ov)} {lo : LO} (hg : M.get id = some so) (hm : so.mine = true) (hm' : so'.mine = true) (hr : ν id = some (r, 0)) (ho : OS ν (H.set r (some lo)) id so') : HS ν (M.set id (some so')) snx (H.set r (some lo)) nx := by
  refine ⟨fun id' so1 h1 => ?_, hM.lt, fun id1 id2 r1 o1 o2 so1 so2 h1 h2 h0 h3 h4 => ?_⟩
  · rw [Al.get_set] at h1
    by_cases e : id' = id
    · subst e; rw [if_pos rfl] at h1; cases h1
      exact ⟨(hM.at_ _ _ hg).1, ho⟩
    · rw [if_neg e] at h1
      obtain ⟨hl, hO⟩ := hM.at_ id' so1 h1
      have hne : ∀ r' o', ν id' = some (r', o') → r' ≠ r := fun r' o' hr' er => by
        subst er
        exact e (hM.inj id id' r' 0 o' so so1 hg hm h1 hr hr').symm
      refine ⟨hl, ?_⟩
      cases so1 with
      | row t cs =>
        obtain ⟨r', lcs, a1, a2, a3⟩ := hO
        exact ⟨r', lcs, a1, by rw [Tr.get_set_ne _ _ (hne _ _ a1)]; exact a2, a3⟩
      | list t ks own h =>
        obtain ⟨a0, a1, a2⟩ := hO
        refine ⟨a0, a1.imp_right ?_, fun ho r' o' hr' => ?_⟩
        · rintro ⟨r', o', lo', b1, b2, b3⟩
          exact ⟨r', o', lo', b1, by rw [Tr.get_set_ne _ _ (hne _ _ b1)]; exact b2, b3⟩
        · obtain ⟨c1, lcs, c2, c3⟩ := a2 ho r' o' hr'
          exact ⟨c1, lcs, by rw [Tr.get_set_ne _ _ (hne _ _ hr')]; exact c2, c3⟩
      | frm g p N T b e =>
        obtain ⟨r', ps, as, body, d, L, a1, a2, a3⟩ := hO
        exact ⟨r', ps, as, body, d, L, a1, by rw [Tr.get_set_ne _ _ (hne _ _ a1)]; exact a2, a3⟩
  · obtain ⟨so3, h9⟩ : ∃ so3, M.get id2 = some so3 := by
      rw [Al.get_set] at h0
      split at h0
      · rename_i e; subst e; exact ⟨_, hg⟩
      · exact ⟨_, h0⟩
    rw [Al.get_set] at h1
    by_cases e : id1 = id
    · subst e; exact hM.inj id1 id2 r1 o1 o2 so so3 hg hm h9 h3 h4
    · rw [if_neg e] at h1; exact hM.inj id1 id2 r1 o1 o2 so1 so3 h1 h2 h9 h3 h4
theorem pt_get : ∀ {k : Nat} {l ys : List LV}, k + ys.length ≤ l.length → ∃ r, pt k l ys = some r ∧ r.length = l.length ∧ ∀ m, r[m]? = if k ≤ m ∧ m < k + ys.length then ys[m - k]? else l[m]?
  | 0, l, [], _ => ⟨l, by cases l <;> rfl, rfl, fun m => by simp⟩
  | 0, [], _ :: _, h => absurd h (by simp)
  | 0, x :: l, y :: ys, h => by
    obtain ⟨r, h1, h2, h3⟩ := pt_get (k := 0) (l := l) (ys := ys) (by simp at h ⊢; omega)
    refine ⟨y :: r, by simp [pt, h1], by simp [h2], fun m => ?_⟩
    cases m with
    | zero => simp
    | succ m =>
      have := h3 m
      simp only [List.getElem?_cons_succ, this, Nat.zero_le, true_and, Nat.sub_zero, Nat.zero_add, List.length_cons]
      by_cases hm : m < ys.length
      · simp [hm]
      · simp [hm]
  | k + 1, [], ys, h => absurd h (by simp only [List.length_nil]; omega)
  | k + 1, x :: l, ys, h => by
    obtain ⟨r, h1, h2, h3⟩ := pt_get (k := k) (l := l) (ys := ys) (by simp at h ⊢; omega)
    refine ⟨x :: r, by simp [pt, h1], by simp [h2], fun m => ?_⟩
    cases m with
    | zero => simp
    | succ m =>
      have := h3 m
      simp only [List.getElem?_cons_succ, this]
      by_cases hm : k ≤ m ∧ m < k + ys.length
      · rw [if_pos hm, if_pos (by omega), show m + 1 - (k + 1) = m - k by omega]
      · rw [if_neg hm, if_neg (by omega)]
theorem get_set_ll {h : Ll} {i : Int} {j : Nat} {v : Int} (h0 : 0 ≤ i) (h1 : i < h.length) {n : Nat} (hr : ∀ x ∈ h, x.length = n) (hj : j < n) (i' : Nat) (j' : Nat) :
    (Ll.set h i j v).get i' j' = if (i' : Int) = i ∧ j' = j then v else h.get i' j' := by
  unfold Ll.set Ll.get
  have hi : i.toNat < h.length := by omega
  have hrow : (h.getD i.toNat []).length = n := by
    rw [List.getD_eq_getElem?_getD, List.getElem?_eq_getElem hi]
    exact hr _ (List.getElem_mem hi)
  have hin : ∀ y : List Int, (List.set h i.toNat y).getD i' [] = if i.toNat = i' then y else h.getD i' [] := fun y => by
    rw [List.getD_eq_getElem?_getD, List.getElem?_set]
    by_cases e : i.toNat = i'
    · subst e; rw [if_pos rfl, if_pos hi, if_pos rfl]; rfl
    · rw [if_neg e, if_neg e, ← List.getD_eq_getElem?_getD]
  rw [Int.toNat_natCast, hin]
  by_cases e : i.toNat = i'
  · subst e
    rw [if_pos rfl]
    have e2 : ((i.toNat : Nat) : Int) = i := Int.toNat_of_nonneg h0
    by_cases ej : j' = j
    · subst ej
      rw [if_pos ⟨e2, rfl⟩, List.getD_eq_getElem?_getD, List.getElem?_set, if_pos rfl, if_pos (by omega)]; rfl
    · rw [if_neg (fun h => ej h.2), List.getD_eq_getElem?_getD, List.getElem?_set, if_neg (fun h => ej h.symm), ← List.getD_eq_getElem?_getD]
  · rw [if_neg e, if_neg (fun h => e (by omega))]
theorem rows_set {h : Ll} {i : Int} {j : Nat} {v : Int} {n : Nat} (hr : ∀ x ∈ h, x.length = n) : ∀ x ∈ Ll.set h i j v, x.length = n := by
  intro x hx
  unfold Ll.set at hx
  by_cases hi : i.toNat < h.length
  · rcases List.mem_or_eq_of_mem_set hx with hx | rfl
    · exact hr x hx
    · rw [List.length_set, List.getD_eq_getElem?_getD, List.getElem?_eq_getElem hi]
      exact hr _ (List.getElem_mem hi)
  · rw [List.set_eq_of_length_le (by omega)] at hx
    exact hr x hx
/-- An element's cells are set, one after another. -/
theorem setsAt_ok {ks : List CK} {i : Int} (h0 : 0 ≤ i) : ∀ {vs : List (SV (stdA fs ov))} {lvs : List LV} {h h' : Ll} {j : Nat}, setsAt (A := stdA fs ov) ks h i j vs = some h' → VSL ν vs lvs → (∀ x ∈ h, x.length = ks.length) → i < h.length →
    h'.length = h.length ∧ (∀ x ∈ h', x.length = ks.length) ∧ (vs = [] ∨ j + vs.length ≤ ks.length) ∧ allOne lvs = true ∧ (∀ (i' j' : Nat), ((i' : Int) ≠ i ∨ j' < j ∨ j + vs.length ≤ j') → h'.get i' j' = h.get i' j') ∧
    (∀ q, q < vs.length → ∃ k, ks[j + q]? = some k ∧ lvs[q]? = some (cellLV k (h'.get i (j + q))))
  | [], lvs, h, h', j, hs, hv, hr, hi => by
    simp only [setsAt, Option.some.injEq] at hs; subst hs
    rw [show lvs = [] from hv]
    exact ⟨rfl, hr, .inl rfl, rfl, fun _ _ _ => rfl, fun q hq => by simp at hq⟩
  | v :: vs, lvs, h, h', j, hs, hv, hr, hi => by
    obtain ⟨y, r, rfl, hy, hvr⟩ := hv
    simp only [setsAt] at hs
    cases h1 : setAt (A := stdA fs ov) ks h i j v with
    | none => simp only [h1] at hs; cases hs
    | some g =>
      simp only [h1] at hs
      have one : ∃ k x, ks[j]? = some k ∧ g = Ll.set h i j x ∧ y = cellLV k x := by
        unfold setAt at h1
        split at h1
        · rename_i k k' n hk
          cases hd : decide (k = k') with
          | false => rw [hd] at h1; cases h1
          | true =>
            rw [hd] at h1; cases h1
            obtain rfl : k = k' := of_decide_eq_true hd
            exact ⟨_, n, hk, rfl, hy⟩
        · rename_i x hk
          cases h1
          refine ⟨_, boolI x, hk, rfl, ?_⟩
          rw [show y = .b x from hy]
          cases x <;> rfl
        · cases h1
      obtain ⟨k, x, hk, rfl, rfl⟩ := one
      have hjl := (List.getElem?_eq_some_iff.1 hk).1
      have hrg : ∀ x' ∈ Ll.set h i j x, x'.length = ks.length := rows_set hr
      have hlg : (Ll.set h i j x).length = h.length := by simp [Ll.set]
      obtain ⟨a1, a2, a3, a4, a5, a6⟩ := setsAt_ok h0 hs hvr hrg (by rw [hlg]; exact hi)
      refine ⟨a1.trans hlg, a2, .inr ?_, ?_, fun i' j' hc => ?_, fun q hq => ?_⟩
      · rcases a3 with rfl | a3
        · simp; omega
        · simp at a3 ⊢; omega
      · simp only [allOne, a4]
        cases k <;> rfl
      · rw [a5 i' j' (by simp at hc; omega), get_set_ll h0 hi hr hjl, if_neg (by simp at hc; omega)]
      · cases q with
        | zero =>
          refine ⟨k, hk, ?_⟩
          have e1 : h'.get i j = x := by
            have := a5 i.toNat j (.inr (.inl (by omega)))
            rw [Int.toNat_of_nonneg h0] at this
            rw [this]
            have e2 := get_set_ll (v := x) h0 hi hr hjl i.toNat j
            rw [Int.toNat_of_nonneg h0, if_pos ⟨rfl, rfl⟩] at e2
            exact e2
          simp [e1]
        | succ q =>
          obtain ⟨k', b1, b2⟩ := a6 q (by simpa using hq)
          exact ⟨k', by rw [← b1]; congr 1; omega, by simpa [show j + (q + 1) = j + 1 + q by omega] using b2⟩
/-- What a store does. -/
theorem sStore_val (hF : FS ν T L) (hlt : ∀ id r o, ν id = some (r, o) → r < nx) {t : TypeId} {x y : Operand} {K : KS (stdA fs ov)} {H' : Hp} (hO : ∀ id so r o o', evO L x = some (.p r o) → ν id = some (r, o') → M.get id = some so → OS ν H' id so) (h : sStore P T M snx t x y K) :
    ∃ id r so so' lo', M.get id = some so ∧ so.mine = true ∧ so'.mine = true ∧ ν id = some (r, 0) ∧ (∃ o, evO L x = some (.p r o)) ∧ (∃ lo, H'.get r = some lo) ∧ (∀ H2 : Hp, H2.get r = some lo' → OS ν H2 id so') ∧ evStore P L H' nx t x y = some ⟨.tup [], H'.set r (some lo'), nx, [r]⟩ ∧ K (.tup []) (M.set id (some so')) snx [id] := by
  unfold sStore at h
  split at h
  · rename_i id off v n hx hy hs
    split at h
    · rename_i u cs hg
      cases hc : (Nat.beq v.cells.length n && sAllOne v.cells)
      · simp only [hc, cond_false] at h <;> exact h.elim
      · simp only [hc, cond_true] at h
        simp only [Bool.and_eq_true] at hc
        cases hp : gpt off cs v.cells with
        | none => simp only [hp] at h <;> exact h.elim
        | some cs' =>
          simp only [hp, Al.force_eq] at h
          obtain ⟨lx, h1, h2⟩ := sO_ok hF hx
          obtain ⟨ly, h3, h4⟩ := sO_ok hF hy
          obtain ⟨r, hr, rfl⟩ := h2
          obtain ⟨r', lcs, hr', hH, hcs⟩ := hO id _ r off 0 h1 hr hg
          rw [hr] at hr'; cases hr'
          obtain ⟨rs, h5, h6⟩ := VSL.pt hp hcs h4.cells
          have hb : Nat.blt r nx = true := by simpa using hlt id r 0 hr
          have hl : Nat.beq ly.cells.length n = true := by rw [h4.cells.length]; exact hc.1
          exact ⟨id, r, .row u cs, .row u cs', .row u rs, hg, rfl, rfl, hr, ⟨off, h1⟩, ⟨_, hH⟩, fun H2 h2 => ⟨r, rs, hr, h2, h6⟩, by simp [evStore, h1, h3, hs, hl, VSL.one h4.cells hc.2, hb, wrt, hH, h5, Tr.force_eq], h⟩
    · exact h.elim
  · rename_i id z i j v n hx hy hs
    split at h
    · rename_i u ks g hg
      cases hc : (Nat.beq ks.length z && (Nat.beq v.cells.length n && Nat.blt 0 n))
      · simp only [hc, cond_false] at h <;> exact h.elim
      · simp only [hc, cond_true] at h
        simp only [Bool.and_eq_true, beq_iff] at hc
        obtain ⟨hz, hn, hn0⟩ := hc
        obtain ⟨hlen, h⟩ := h
        obtain rfl := hz
        cases hp : setsAt (A := stdA fs ov) ks g i j v.cells with
        | none => simp only [hp] at h <;> exact h.elim
        | some g' =>
          simp only [hp, Al.force_eq] at h
          obtain ⟨lx, h1, h2⟩ := sO_ok hF hx
          obtain ⟨ly, h3, h4⟩ := sO_ok hF hy
          obtain ⟨r, o, hr, i0, rfl⟩ := h2
          obtain ⟨hrow, _, hown⟩ := hO id _ r _ o h1 hr hg
          obtain ⟨rfl, lcs, hH, hll, hcell⟩ := hown rfl r o hr
          have hi : @LT.lt Int _ i (g.length : Int) := hlen
          have i0 : @LE.le Int _ 0 i := i0
          obtain ⟨s1, s2, s3, s4, s5, s6⟩ := setsAt_ok i0 hp h4.cells hrow hi
          have hin : i.toNat * ks.length + ks.length ≤ g.length * ks.length := by
            rw [← Nat.succ_mul]; exact Nat.mul_le_mul_right _ (by omega)
          have hnil : v.cells ≠ [] := fun e => by rw [e] at hn; subst hn; simp at hn0
          have s3 := s3.resolve_left hnil
          have hle : 0 + i.toNat * ks.length + j + ly.cells.length ≤ lcs.length := by rw [h4.cells.length, hll]; omega
          obtain ⟨rs, q1, q2, q3⟩ := pt_get hle
          have hb : Nat.blt r nx = true := by simpa using hlt id r 0 hr
          have hl : Nat.beq ly.cells.length n = true := by rw [h4.cells.length, hn]; exact Nat.beq_refl _
          have hc2 : cellsOK rs 0 ks g' := fun i' j' k hi' hj' => by
            rw [q3]
            have hj2 := (List.getElem?_eq_some_iff.1 hj').1
            rw [s1] at hi'
            by_cases hcase : i' = i.toNat ∧ j ≤ j' ∧ j' < j + v.cells.length
            · obtain ⟨rfl, c1, c2⟩ := hcase
              rw [h4.cells.length, if_pos (by omega)]
              obtain ⟨k', b1, b2⟩ := s6 (j' - j) (by omega)
              rw [show j + (j' - j) = j' by omega] at b1 b2
              rw [hj'] at b1; cases b1
              rw [show 0 + i.toNat * ks.length + j' - (0 + i.toNat * ks.length + j) = j' - j by omega, b2, Int.toNat_of_nonneg i0]
            · have hout : ¬ (0 + i.toNat * ks.length + j ≤ 0 + i' * ks.length + j' ∧ 0 + i' * ks.length + j' < 0 + i.toNat * ks.length + j + ly.cells.length) := by
                rw [h4.cells.length]
                intro hin2
                have hi2 : i' = i.toNat := by
                  by_cases hlt2 : i' < i.toNat
                  · have : i' * ks.length + ks.length ≤ i.toNat * ks.length := by rw [← Nat.succ_mul]; exact Nat.mul_le_mul_right _ hlt2
                    omega
                  · by_cases hgt : i.toNat < i'
                    · have : i.toNat * ks.length + ks.length ≤ i' * ks.length := by rw [← Nat.succ_mul]; exact Nat.mul_le_mul_right _ hgt
                      omega
                    · omega
                subst hi2
                exact hcase ⟨rfl, by omega, by omega⟩
              rw [if_neg hout, hcell i' j' k hi' hj']
              rw [s5 i' j' (by
                by_cases hi2 : (i' : Int) = i
                · have : i' = i.toNat := by omega
                  right
                  have := hcase
                  omega
                · exact .inl hi2)]
          exact ⟨id, r, .list u ks true g, .list u ks true g', .gro u ks.length rs, hg, rfl, rfl, hr, ⟨_, h1⟩, ⟨_, hH⟩, fun H2 h2 => ⟨s2, .inr ⟨r, 0, _, hr, h2, .inl ⟨rs, rfl, hc2⟩⟩, fun _ r' o' hr' => by rw [hr] at hr'; cases hr'; exact ⟨rfl, rs, h2, by rw [q2, s1, hll], hc2⟩⟩,
            by simp only [Nat.zero_add] at h1 q1; simp [evStore, h1, h3, hs, hl, s4, hb, wrt, hH, q1, Tr.force_eq], h⟩
    · exact h.elim
  · exact h.elim
theorem sStore_ok (hF : FS ν T L) (hM : HS ν M snx H nx) {t : TypeId} {x y : Operand} {K : KS (stdA fs ov)} (h : sStore P T M snx t x y K) : GotBy ν snx H nx K (evStore P L H nx t x y) := by
  obtain ⟨id, r, so, so', lo', hg, hm, hm', hr, ⟨o, hx⟩, ⟨lo, hl⟩, hos, he, hk⟩ := sStore_val (nx := nx) hF (fun id r o hr => (hM.lt id r o hr).1) (fun id so r o o' _ _ hg => (hM.at_ id so hg).2) h
  refine ⟨⟨.tup [], H.set r (some lo'), nx, [r]⟩, ν, .tup [], M.set id (some so'), snx, [id], he, ?_, hk⟩
  exact ⟨fun _ _ => rfl, fun id q o h1 h2 => by have := (hM.lt id q o h2).2; omega, Nat.le_refl _, Nat.le_refl _, hs_write hM hg hm hm' hr (hos _ (Tr.get_set_same _ _ _)), ⟨[], rfl, rfl⟩, fun q hq => ⟨id, by simp, 0, by simp at hq; subst hq; exact hr⟩, fun q _ hq => (by simp at hq; exact Tr.get_set_ne _ _ hq), fun q hq => (by simp at hq; subst hq; exact .inr ⟨_, hl⟩), fun h => absurd rfl h⟩
theorem OS.sub {H' : Hp} {ν' : Nm} {id : Nat} {so : SO (stdA fs ov)} (hO : OS ν H id so) (hle : NLe ν ν') (hid : ν' id = ν id) (hk : ∀ r o lo, ν id = some (r, o) → H.get r = some lo → H'.get r = some lo) : OS ν' H' id so := by
  cases so with
  | row t cs =>
    obtain ⟨r, lcs, a1, a2, a3⟩ := hO
    exact ⟨r, lcs, hle _ _ a1, hk _ _ _ a1 a2, a3.mono hle⟩
  | list t ks own h =>
    obtain ⟨a0, a1, a2⟩ := hO
    refine ⟨a0, a1.imp_right ?_, fun ho r o hr => ?_⟩
    · rintro ⟨r, o, lo, b1, b2, b3⟩
      exact ⟨r, o, lo, hle _ _ b1, hk _ _ _ b1 b2, b3⟩
    · rw [hid] at hr
      obtain ⟨c1, lcs, c2, c3⟩ := a2 ho r o hr
      exact ⟨c1, lcs, hk _ _ _ hr c2, c3⟩
  | frm g p N T b e =>
    obtain ⟨r, ps, as, body, d, L, a1, a2, a3, a4⟩ := hO
    exact ⟨r, ps, as, body, d, L, hle _ _ a1, hk _ _ _ a1 a2, a3.up hle, a4⟩
def updN (ν : Nm) (id : Nat) (x : Option (Nat × Nat)) : Nm := fun j => if j = id then x else ν j
theorem updN_same {id : Nat} {x : Option (Nat × Nat)} : updN ν id x id = x := by simp [updN]
theorem updN_ne {id j : Nat} {x : Option (Nat × Nat)} (h : j ≠ id) : updN ν id x j = ν j := by simp [updN, h]
/-- A new block. -/
theorem hs_new (hM : HS ν M snx H nx) {so : SO (stdA fs ov)} {lo : LO} (ho : ∀ ν', NLe ν ν' → ν' snx = some (nx, 0) → ∀ H' : Hp, H'.get nx = some lo → OS ν' H' snx so) :
    HS (updN ν snx (some (nx, 0))) (M.set snx (some so)) (snx + 1) (H.set nx (some lo)) (nx + 1) ∧ NLe ν (updN ν snx (some (nx, 0))) := by
  have hle : NLe ν (updN ν snx (some (nx, 0))) := fun id x hx => by
    obtain ⟨r, o⟩ := x
    have := (hM.lt id r o hx).2
    rw [updN_ne (by omega)]; exact hx
  refine ⟨⟨fun id so1 h1 => ?_, fun id r o h1 => ?_, fun id1 id2 r1 o1 o2 so1 so2 h1 h2 h0 h3 h4 => ?_⟩, hle⟩
  · rw [Al.get_set] at h1
    by_cases e : id = snx
    · subst e; rw [if_pos rfl] at h1; cases h1
      exact ⟨by omega, ho _ hle updN_same _ (Tr.get_set_same _ _ _)⟩
    · rw [if_neg e] at h1
      obtain ⟨hl, hO⟩ := hM.at_ id so1 h1
      exact ⟨by omega, hO.sub hle (updN_ne e) fun r o lo' a1 a2 => by
        have := (hM.lt id r o a1).1
        rw [Tr.get_set_ne _ _ (by omega)]; exact a2⟩
  · by_cases e : id = snx
    · subst e; rw [updN_same] at h1; cases h1; omega
    · rw [updN_ne e] at h1; have := hM.lt id r o h1; omega
  · rw [Al.get_set] at h1
    have old : ∀ {i r o}, i ≠ snx → updN ν snx (some (nx, 0)) i = some (r, o) → r < nx := fun e h => by rw [updN_ne e] at h; exact (hM.lt _ _ _ h).1
    by_cases e1 : id1 = snx
    · subst e1; rw [updN_same] at h3; cases h3
      by_cases e2 : id2 = id1
      · exact e2.symm
      · have := old e2 h4; omega
    · rw [if_neg e1] at h1
      by_cases e2 : id2 = snx
      · subst e2; rw [updN_same] at h4; cases h4; have := old e1 h3; omega
      · rw [updN_ne e1] at h3; rw [updN_ne e2] at h4
        rw [Al.get_set_ne _ _ e2] at h0
        exact hM.inj id1 id2 r1 o1 o2 so1 so2 h1 h2 h0 h3 h4
theorem sFresh_ok (hM : HS ν M snx H nx) {so : SO (stdA fs ov)} {lo : LO} {v : SV (stdA fs ov)} {lv : LV} {K : KS (stdA fs ov)} (h : sFresh M snx so v [] K) (ho : ∀ ν', NLe ν ν' → ν' snx = some (nx, 0) → ∀ H' : Hp, H'.get nx = some lo → OS ν' H' snx so)
    (hv : ∀ ν' : Nm, ν' snx = some (nx, 0) → VS ν' v lv) {f : Nat → LV} (hf : f nx = lv) : GotBy ν snx H nx K (fresh H nx lo f []) := by
  simp only [sFresh, Al.force_eq] at h
  obtain ⟨h1, h2⟩ := hs_new hM ho
  refine ⟨⟨lv, H.set nx (some lo), nx + 1, []⟩, updN ν snx (some (nx, 0)), v, M.set snx (some so), snx + 1, [], by rw [fresh_eq, hf], ?_, h⟩
  exact ⟨fun id hid => updN_ne (by omega), fun id q o a1 a2 => by
    by_cases e : id = snx
    · subst e; rw [updN_same] at a2; cases a2; exact Nat.le_refl _
    · rw [updN_ne e] at a2; have := (hM.lt _ _ _ a2).2; omega, by dsimp only; omega, by omega, h1, hv _ updN_same, fun q hq => (by cases hq), fun q hq _ => Tr.get_set_ne _ _ (by omega), fun q hq => (by cases hq), fun _ => by omega⟩
theorem sRep_ok {z : List (SV (stdA fs ov))} {lz : List LV} (h : VSL ν z lz) : ∀ n, VSL ν (sRep n z) (rep n lz)
  | 0 => rfl
  | n + 1 => by simp only [sRep, rep, ap_eq]; exact h.append (sRep_ok h n)
theorem foldS_ok {f : Int → Int → Int} {k : IntKind} : ∀ {l : List (SV (stdA fs ov))} {ls : List LV} {x : Int} {v : SV (stdA fs ov)}, foldS (A := stdA fs ov) f k x l = some v → VSL ν l ls → ∃ lv, foldI f k x ls = some lv ∧ VS ν v lv
  | [], ls, x, v, h, hl => by simp [foldS] at h; subst h; rw [hl]; exact ⟨_, rfl, rfl⟩
  | y :: l, ls, x, v, h, hl => by
    obtain ⟨ly, r, rfl, hy, hl⟩ := hl
    cases y <;> simp only [foldS] at h <;> try cases h
    rename_i k' n
    obtain rfl := hy
    cases hk : decide (k = k')
    · simp [hk] at h
    · simp only [hk, cond_true] at h
      obtain ⟨lv, h1, h2⟩ := foldS_ok h hl
      exact ⟨lv, by simp [foldI, hk, nI_eq, h1], h2⟩
end Go.Rx

set_option linter.unusedSimpArgs false
set_option linter.unusedVariables false
set_option linter.unusedSectionVars false
namespace Go.Rx
open Go
variable {fs : Fs} {ov : Bool} {ν : Nm} {P : Program} {T : Al (SV (stdA fs ov))} {L : Tr LV} {M : SH (stdA fs ov)} {H : Hp} {snx nx : Nat}
def cellI : Int ⊕ Bool → Int
  | .inl n => n
  | .inr b => boolI b
theorem row_std (l : List (Int ⊕ Bool)) : (stdA fs ov).row l = [l.map cellI] := by
  show [l.map _] = [l.map cellI]
  congr 2
theorem rowOf_ok : ∀ {ks : List CK} {cs : List (SV (stdA fs ov))} {lcs : List LV} {x : List (Int ⊕ Bool)}, rowOf (A := stdA fs ov) ks cs = some x → VSL ν cs lcs →
    lcs.length = ks.length ∧ x.length = ks.length ∧ allOne lcs = true ∧ ∀ (j : Nat) (k : CK), ks[j]? = some k → lcs[j]? = some (cellLV k ((x.map cellI).getD j 0))
  | [], [], lcs, x, h, hv => by
    simp [rowOf] at h; subst h
    rw [show lcs = [] from hv]
    exact ⟨rfl, rfl, rfl, fun j k h => by simp at h⟩
  | .int k :: ks, .i k' n :: l, lcs, x, h, hv => by
    simp only [rowOf] at h
    cases hk : decide (k = k')
    · simp [hk] at h
    · simp only [hk, cond_true] at h
      obtain rfl : k = k' := of_decide_eq_true hk
      split at h
      · rename_i r hr
        cases h
        obtain ⟨y, lr, rfl, h1, h2⟩ := hv
        obtain ⟨a, b, c, d⟩ := rowOf_ok hr h2
        obtain rfl : y = .i k n := h1
        refine ⟨by simp [a], by simp [b], by simp [allOne, LV.one, c], fun j q hj => ?_⟩
        cases j with
        | zero => simp at hj; subst hj; rfl
        | succ j => simpa using d j q (by simpa using hj)
      · cases h
  | .bool :: ks, .b b :: l, lcs, x, h, hv => by
    simp only [rowOf] at h
    split at h
    · rename_i r hr
      cases h
      obtain ⟨y, lr, rfl, h1, h2⟩ := hv
      obtain ⟨a, b', c, d⟩ := rowOf_ok hr h2
      obtain rfl : y = .b b := h1
      refine ⟨by simp [a], by simp [b'], by simp [allOne, LV.one, c], fun j q hj => ?_⟩
      cases j with
      | zero => simp at hj; subst hj; cases b <;> rfl
      | succ j => simpa using d j q (by simpa using hj)
    · cases h
/-- Cells of so many rows. -/
structure Rows (ks : List CK) (h : Ll) (news : List LV) : Prop where
  rows : ∀ x ∈ h, x.length = ks.length
  len : news.length = h.length * ks.length
  ok : cellsOK news 0 ks h
  one : allOne news = true
theorem allOne_app : ∀ {l m : List LV}, allOne l = true → allOne m = true → allOne (l ++ m) = true
  | [], _, _, h => h
  | x :: l, m, h, h' => by
    simp only [allOne, List.cons_append] at h ⊢
    cases hx : x.one <;> simp [hx] at h
    exact allOne_app h h'
theorem Rows.nil {ks : List CK} : Rows ks [] [] := ⟨by simp, by simp, fun i j k hi => by simp at hi, rfl⟩
theorem getLl_app {g h : Ll} {i j : Nat} : (g ++ h : Ll).get i j = if i < g.length then g.get i j else h.get (i - g.length : Nat) j := by
  simp only [Ll.get, Int.toNat_natCast, List.getD_eq_getElem?_getD]
  split
  · rw [List.getElem?_append_left (by assumption)]
  · rw [List.getElem?_append_right (by omega)]
theorem Rows.app {ks : List CK} {g h : Ll} {a b : List LV} (ha : Rows ks g a) (hb : Rows ks h b) : Rows ks (g ++ h) (a ++ b) := by
  refine ⟨fun x hx => ?_, by simp [ha.len, hb.len, Nat.add_mul], fun i j k hi hj => ?_, allOne_app ha.one hb.one⟩
  · rcases List.mem_append.1 hx with hx | hx
    · exact ha.rows x hx
    · exact hb.rows x hx
  · have hjl : j < ks.length := (List.getElem?_eq_some_iff.1 hj).1
    rw [getLl_app]
    split
    · rename_i hig
      have hb2 : i * ks.length + j < g.length * ks.length := by
        have : (i + 1) * ks.length ≤ g.length * ks.length := Nat.mul_le_mul_right _ hig
        rw [Nat.add_mul, Nat.one_mul] at this
        omega
      rw [Nat.zero_add, List.getElem?_append_left (by rw [ha.len]; exact hb2)]
      have := ha.ok i j k hig hj
      rwa [Nat.zero_add] at this
    · rename_i hig
      have he : i * ks.length = (i - g.length) * ks.length + g.length * ks.length := by rw [← Nat.add_mul]; congr 1; omega
      rw [Nat.zero_add, List.getElem?_append_right (by rw [ha.len]; omega), ha.len, show i * ks.length + j - g.length * ks.length = (i - g.length) * ks.length + j by omega]
      have := hb.ok (i - g.length) j k (by simp at hi; omega) hj
      rwa [Nat.zero_add] at this
theorem Rows.one_row {ks : List CK} {cs : List (SV (stdA fs ov))} {lcs : List LV} {x : List (Int ⊕ Bool)} (h : rowOf (A := stdA fs ov) ks cs = some x) (hv : VSL ν cs lcs) : Rows ks [x.map cellI] lcs := by
  obtain ⟨a, b, c, d⟩ := rowOf_ok h hv
  refine ⟨by simp [b], by simp [a], fun i j k hi hj => ?_, c⟩
  have : i = 0 := by simpa using hi
  subst this
  rw [Nat.zero_add, Nat.zero_mul, Nat.zero_add]
  exact d j k hj
theorem tk_of : ∀ {n : Nat} {l : List LV}, n ≤ l.length → Rx.tk n l = some (l.take n)
  | 0, l, _ => by simp [Rx.tk]
  | n + 1, [], h => by simp at h
  | n + 1, x :: l, h => by
    simp only [Rx.tk]
    rw [tk_of (by simpa using h)]
    rfl
theorem rowsOf_ok {ks : List CK} : ∀ {m : Nat} {cs : List (SV (stdA fs ov))} {lcs : List LV} {h : Ll}, rowsOf (A := stdA fs ov) ks m cs = some h → VSL ν cs lcs → h.length = m ∧ ∃ news, Rx.tk (m * ks.length) lcs = some news ∧ Rows ks h news
  | 0, cs, lcs, h, he, hv => by
    simp [rowsOf] at he
    subst he
    exact ⟨rfl, [], by simp [Rx.tk], Rows.nil⟩
  | m + 1, cs, lcs, h, he, hv => by
    simp only [rowsOf] at he
    split at he
    · rename_i r hr
      split at he
      · rename_i x g hx hg
        obtain ⟨rs, t1, t2⟩ := VSL.tk hr hv
        obtain ⟨e1, e2⟩ := tk_ok t1
        have hd : VSL ν (cs.drop ks.length) (lcs.drop ks.length) := hv.drop _
        obtain ⟨g1, news, g2, g3⟩ := rowsOf_ok hg hd
        have r1 := Rows.one_row hx t2
        have tot : Rx.tk ((m + 1) * ks.length) lcs = some (rs ++ news) := by
          obtain ⟨f1, f2⟩ := tk_ok g2
          rw [tk_of (by simp at f2 ⊢; rw [Nat.add_mul]; omega)]
          subst e1 f1
          rw [Nat.add_mul, Nat.one_mul, Nat.add_comm (m * ks.length), List.take_add]
        have fin : h = [x.map cellI] ++ g := by
          cases m with
          | zero =>
            have e0 : some ((stdA fs ov).row x) = some h := he
            have : g = [] := List.length_eq_zero_iff.1 g1
            rw [row_std] at e0
            rw [this]
            exact (Option.some.inj e0).symm
          | succ m =>
            have e0 : some ((stdA fs ov).cat ((stdA fs ov).row x) g) = some h := he
            rw [row_std] at e0
            exact (Option.some.inj e0).symm
        subst fin
        exact ⟨by simp [g1], _, tot, r1.app g3⟩
      · cases he
    · cases he
end Go.Rx

set_option linter.unusedSimpArgs false
set_option linter.unusedVariables false
set_option linter.unusedSectionVars false
namespace Go.Rx
open Go
variable {fs : Fs} {ov : Bool} {ν : Nm} {P : Program} {T : Al (SV (stdA fs ov))} {L : Tr LV} {M : SH (stdA fs ov)} {H : Hp} {snx nx : Nat}
theorem room_ok {h : Ll} {p : Prop} (hr : room (A := stdA fs ov) h p) : h.length ≤ 1000000 ∧ p := by
  obtain ⟨a, b⟩ := hr
  have a : (h.length : Int) ≤ 1000000 := a
  exact ⟨by omega, b⟩
theorem fits_of {n bytes : Nat} (h1 : n ≤ 1000000) (h2 : bytes ≤ 140737488) : fits n bytes = true := by
  have : n * bytes ≤ 1000000 * 140737488 := Nat.mul_le_mul h1 h2
  simp [fits]
  omega
theorem os_list {e : TypeId} {ks : List CK} {h : Ll} {news : List LV} (hr : Rows ks h news) : ∀ ν' : Nm, NLe ν ν' → ν' snx = some (nx, 0) → ∀ H' : Hp, H'.get nx = some (.gro e ks.length news) → OS (fs := fs) (ov := ov) ν' H' snx (.list e ks true h) :=
  fun ν' _ hn H' hH => ⟨hr.rows, .inr ⟨nx, 0, _, hn, hH, .inl ⟨news, rfl, hr.ok⟩⟩, fun _ r o h1 => by rw [hn] at h1; cases h1; exact ⟨rfl, news, hH, hr.len, hr.ok⟩⟩
theorem vs_list {h : Ll} : ∀ ν' : Nm, ν' snx = some (nx, 0) → VS (fs := fs) (ov := ov) ν' (.ls true snx ((h.length : Nat) : Int)) (.gs nx 0 0 h.length) :=
  fun ν' hn => ⟨Int.natCast_nonneg _, .inr ⟨nx, 0, hn, .inl ⟨rfl, by simp⟩⟩⟩
theorem sNew_ok (hM : HS ν M snx H nx) {e : TypeId} {ks : List CK} {h : Ll} {news : List LV} {bytes : Nat} {K : KS (stdA fs ov)} (hr : Rows ks h news) (hb : bytes ≤ 140737488) (hs : sNew M snx e ks h K) :
    GotBy ν snx H nx K (appNew H nx e ks.length bytes h.length news) := by
  obtain ⟨h1, hs⟩ := room_ok hs
  unfold appNew
  rw [fits_of h1 hb, cond_true]
  exact sFresh_ok hM hs (os_list hr) vs_list rfl
theorem hs_kill (hM : HS ν M snx H nx) {id r o : Nat} {so : SO (stdA fs ov)} (hg : M.get id = some so) (hm : so.mine = true) (hr : ν id = some (r, o)) : HS ν (M.set id none) snx (H.set r none) nx := by
  have sub : ∀ id' so', (M.set id none).get id' = some so' → id' ≠ id ∧ M.get id' = some so' := fun id' so' h => by
    rw [Al.get_set] at h
    split at h
    · cases h
    · rename_i e; exact ⟨e, h⟩
  refine ⟨fun id' so' h => ?_, hM.lt, fun id1 id2 r1 o1 o2 so1 so2 h hm' h' => hM.inj id1 id2 r1 o1 o2 so1 so2 (sub _ _ h).2 hm' (sub _ _ h').2⟩
  obtain ⟨hne, h⟩ := sub id' so' h
  obtain ⟨h1, h2⟩ := hM.at_ id' so' h
  refine ⟨h1, h2.sub (fun _ _ h => h) rfl fun r' o' lo a1 a2 => ?_⟩
  rw [Tr.get_set_ne _ _ fun e => hne ?_]
  · exact a2
  · subst e
    exact (hM.inj id id' r' o o' so so' hg hm h hr a1).symm
theorem sGrow_ok (hM : HS ν M snx H nx) {e : TypeId} {ks : List CK} {h : Ll} {news : List LV} {K : KS (stdA fs ov)} (hr : Rows ks h news) {id r o : Nat} {so : SO (stdA fs ov)} {lo : LO} (hg : M.get id = some so) (hm : so.mine = true) (hn : ν id = some (r, o)) (hl : H.get r = some lo)
    (hs : sGrow M snx id e ks h K) : GotBy ν snx H nx K (grow H nx r e ks.length h.length news) := by
  obtain ⟨h1, hs⟩ := room_ok hs
  rw [Al.force_eq] at hs
  obtain ⟨o1, ν', v, M', snx', wr, e1, g, hK⟩ := sFresh_ok (K := fun v M snx _ => K v M snx [id]) (hs_kill hM hg hm hn) hs (os_list (e := e) hr) vs_list (f := fun id => LV.gs id 0 0 h.length) rfl
  rw [fresh_eq] at e1
  cases e1
  refine ⟨⟨.gs nx 0 0 h.length, (H.set r none).set nx (some (.gro e ks.length news)), nx + 1, [r]⟩, ν', v, M', snx', [id], by rw [grow_eq], ⟨g.lo, g.nw, g.up, g.sup, g.hs, g.v, fun q hq => ?_, fun q h1 h2 => ?_, fun q hq => ?_, g.same⟩, hK⟩
  · simp at hq; subst hq; exact ⟨id, by simp, o, hn⟩
  · have := g.keep q h1 (by simp)
    rw [this, Tr.get_set_ne _ _ (by simpa using h2)]
  · simp at hq; subst hq; exact .inr ⟨_, hl⟩
end Go.Rx

set_option linter.unusedSimpArgs false
set_option linter.unusedVariables false
set_option linter.unusedSectionVars false
namespace Go.Rx
open Go
variable {fs : Fs} {ov : Bool} {ν : Nm} {P : Program} {T : Al (SV (stdA fs ov))} {L : Tr LV} {M : SH (stdA fs ov)} {H : Hp} {snx nx : Nat}
theorem sMore_ok (hM : HS ν M snx H nx) {ks : List CK} {x : SV (stdA fs ov)} {lx : LV} {h : Ll} (hs : sMore M ks x = some h) (hx : VS ν x lx) : ∃ m news, h.length = m + 1 ∧ more H ks.length lx = some (m + 1, news) ∧ Rows ks h news := by
  unfold sMore at hs
  split at hs
  · rename_i id off len cap
    split at hs
    · rename_i t cs hg
      obtain ⟨r, hr, rfl⟩ := hx
      obtain ⟨_, r', lcs, hr', hH, hcs⟩ := hM.at_ id _ hg
      rw [hr] at hr'; cases hr'
      obtain ⟨h1, news, h2, h3⟩ := rowsOf_ok hs (hcs.drop off)
      refine ⟨len, news, h1, ?_, h3⟩
      simp only [more, rd, hH, LO.cs, dp_eq, h2]
    · cases hs
  · cases hs
theorem allOne_of : ∀ {l : List LV}, (∀ (i : Nat) (x : LV), l[i]? = some x → x.one = true) → allOne l = true
  | [], _ => rfl
  | x :: l, h => by
    simp only [allOne, h 0 x rfl]
    exact allOne_of fun i y hy => h (i + 1) y (by simpa using hy)
theorem rows_of {ks : List CK} {g : Ll} {lcs : List LV} (h1 : ∀ x ∈ g, x.length = ks.length) (h2 : lcs.length = g.length * ks.length) (h3 : cellsOK lcs 0 ks g) : Rows ks g lcs := by
  refine ⟨h1, h2, h3, allOne_of fun n x hx => ?_⟩
  have hn : n < g.length * ks.length := by rw [← h2]; exact (List.getElem?_eq_some_iff.1 hx).1
  have hk : 0 < ks.length := by
    rcases Nat.eq_zero_or_pos ks.length with e | e
    · rw [e] at hn; omega
    · exact e
  have hi : n / ks.length < g.length := Nat.div_lt_of_lt_mul (by rwa [Nat.mul_comm])
  have hj : n % ks.length < ks.length := Nat.mod_lt _ hk
  have := h3 _ _ _ hi (List.getElem?_eq_getElem hj)
  rw [show 0 + n / ks.length * ks.length + n % ks.length = n by rw [Nat.zero_add, Nat.mul_comm]; exact Nat.div_add_mod n ks.length, hx] at this
  rw [Option.some.inj this]
  cases ks[n % ks.length] <;> rfl
theorem hs_drop (hM : HS ν M snx H nx) {id : Nat} : HS ν (M.set id none) snx H nx := by
  have sub : ∀ id' so', (M.set id none).get id' = some so' → M.get id' = some so' := fun id' so' h => by
    rw [Al.get_set] at h
    split at h
    · cases h
    · exact h
  exact ⟨fun id' so' h => hM.at_ id' so' (sub _ _ h), hM.lt, fun id1 id2 r1 o1 o2 so1 so2 h hm' h' => hM.inj id1 id2 r1 o1 o2 so1 so2 (sub _ _ h) hm' (sub _ _ h')⟩
theorem sFirst_ok (hM : HS ν M snx H nx) {e : TypeId} {ks : List CK} {h : Ll} {news : List LV} {bytes id : Nat} {K : KS (stdA fs ov)} (hr : Rows ks h news) (hb : bytes ≤ 140737488) (hs : sGrow M snx id e ks h K) :
    GotBy ν snx H nx K (appNew H nx e ks.length bytes h.length news) := by
  obtain ⟨h1, hs⟩ := room_ok hs
  rw [Al.force_eq] at hs
  unfold appNew
  rw [fits_of h1 hb, cond_true]
  obtain ⟨o1, ν', v, M', snx', wr, e1, g, hK⟩ := sFresh_ok (K := fun v M snx _ => K v M snx [id]) (hs_drop hM) hs (os_list (e := e) hr) vs_list (f := fun id => LV.gs id 0 0 h.length) rfl
  have e2 := e1
  rw [fresh_eq] at e2
  cases e2
  exact ⟨_, ν', v, M', snx', [id], e1, ⟨g.lo, g.nw, g.up, g.sup, g.hs, g.v, fun q hq => (by simp at hq), g.keep, g.has, g.same⟩, hK⟩
theorem sAppNe_ok (hM : HS ν M snx H nx) {i : TypeInfo} {e : TypeId} {ks : List CK} {s : SV (stdA fs ov)} {ls : LV} {K : KS (stdA fs ov)} {hh : Ll} {m : Nat} {news : List LV} (c1 : ks.length = i.size) (c3 : i.bytes ≤ 140737488) (m1 : hh.length = m + 1) (m3 : Rows ks hh news) (h : sAppNe i e ks s M snx hh K) (hs : VS ν s ls) :
    GotBy ν snx H nx K (appSome H nx e i.size i.bytes (m + 1) news ls) := by
  unfold sAppNe at h
  split at h
  · obtain rfl : ls = .nils := hs
    simp only [appSome]
    rw [← m1, ← c1]
    exact sNew_ok hM m3 c3 h
  · obtain ⟨r, hr, rfl⟩ := hs
    simp only [appSome]
    rw [← m1, ← c1]
    exact sNew_ok hM m3 c3 h
  · rename_i id n
    split at h
    · rename_i e' ks' g hg
      cases hb : (Nat.beq e' e && decide (ks' = ks))
      · rw [hb] at h; exact h.elim
      · rw [hb, cond_true] at h
        simp only [Bool.and_eq_true, beq_iff, decide_eq_true_eq] at hb
        obtain ⟨rfl, rfl⟩ := hb
        obtain ⟨hn, h⟩ := h
        have hn : n = (g.length : Int) := hn
        subst hn
        obtain ⟨_, hrow, _, hown⟩ := hM.at_ id _ hg
        obtain ⟨n0, ⟨rfl, h3⟩ | ⟨r, o, hr, hv⟩⟩ := hs
        · have hg0 : g = [] := by
            have h3 : (g.length : Int) = 0 := h3
            exact List.length_eq_zero_iff.1 (by omega)
          subst hg0
          simp only [appSome]
          rw [← m1, ← c1]
          exact sFirst_ok hM m3 c3 h
        · obtain ⟨rfl, lcs, hl, hlen, hok⟩ := hown rfl r o hr
          obtain ⟨-, rfl⟩ | ⟨hf, _⟩ := hv
          · have r0 := rows_of hrow hlen hok
            have rr := r0.app m3
            have hroom := (room_ok h).1
            have hlt : r < nx := (hM.lt id r 0 hr).1
            have e1 : (g ++ hh : Ll).length = g.length + (m + 1) := by rw [List.length_append, m1]
            have hf2 : fits (g.length + (m + 1)) i.bytes = true := fits_of (by rw [← e1]; exact hroom) c3
            simp only [appSome, appGs, hl, Int.toNat_natCast, ← c1]
            rw [tk_of (by rw [hlen]; exact Nat.le_refl _)]
            simp only [(show Nat.beq e' e' = true by simp), (show Nat.beq ks'.length ks'.length = true by simp), (show Nat.blt r nx = true by simpa using hlt), hf2, Bool.and_self, cond_true, ap_eq]
            rw [← hlen, List.take_length, ← e1]
            exact sGrow_ok hM rr hg rfl hr hl h
          · cases hf
    · exact h.elim
  · rename_i id len cap
    split at h
    · rename_i e' cs hg
      cases hb : (Nat.beq e' e && Nat.beq cs.length (cap * i.size) && Nat.ble (len + 1) cap && Nat.ble cap 1000000)
      · rw [hb] at h; exact h.elim
      · rw [hb, cond_true] at h
        split at h
        · rename_i g hg2
          obtain ⟨r, hr, rfl⟩ := hs
          obtain ⟨_, r', lcs, hr', hl, hcs⟩ := hM.at_ id _ hg
          rw [hr] at hr'; cases hr'
          obtain ⟨g1, news0, g2, g3⟩ := rowsOf_ok hg2 hcs
          have rr := g3.app m3
          have hroom : (g ++ hh : Ll).length ≤ 1000000 := by
            split at h <;> exact (room_ok h).1
          have hlt : r < nx := (hM.lt id r 0 hr).1
          have e1 : (g ++ hh : Ll).length = len + 1 + (m + 1) := by rw [List.length_append, m1, g1]
          have hf2 : fits (len + 1 + (m + 1)) i.bytes = true := fits_of (by rw [← e1]; exact hroom) c3
          have hlen : lcs.length = cs.length := hcs.length
          simp only [Bool.and_eq_true] at hb
          obtain ⟨⟨⟨b1, b2⟩, b3⟩, b4⟩ := hb
          simp only [appSome, appSl, hl, hlen, b1, b2, b3, b4, hf2, (show Nat.blt r nx = true by simpa using hlt), Bool.and_self, cond_true]
          rw [← c1, g2]
          simp only [ap_eq, nN_eq]
          obtain rfl : e' = e := by simpa using b1
          rw [← e1]
          cases hfull : Nat.beq (len + 1) cap with
          | true =>
            simp only [hfull] at h
            exact sNew_ok hM rr c3 h
          | false =>
            simp only [hfull] at h
            exact sGrow_ok hM rr hg rfl hr hl h
        · exact h.elim
    · exact h.elim
  · exact h.elim
/-- The cells of a list. -/
theorem rd_list {r o : Nat} {lo : LO} {ks : List CK} {h : Ll} (hl : H.get r = some lo) (hd : RD lo o ks h) (hr : ∀ x ∈ h, x.length = ks.length) (hk : 0 < ks.length) (hh : 0 < h.length) : ∃ news, rd H r o (h.length * ks.length) = some news ∧ Rows ks h news := by
  have cut : ∀ (cs : List LV) (o : Nat), cellsOK cs o ks h → ∃ news, tk (h.length * ks.length) (dp o cs) = some news ∧ Rows ks h news ∧ ∀ x ∈ news, x.kn = true := fun cs o hc => by
    have e1 : (h.length - 1) * ks.length + ks.length = h.length * ks.length := by rw [← Nat.succ_mul]; congr 1; omega
    have hlen : o + h.length * ks.length ≤ cs.length := by
      have := hc (h.length - 1) (ks.length - 1) ks[ks.length - 1] (by omega) (List.getElem?_eq_getElem (by omega))
      have := (List.getElem?_eq_some_iff.1 this).1
      omega
    rw [dp_eq, tk_of (by simp; omega)]
    have hat : ∀ (i j : Nat) (k : CK), i < h.length → ks[j]? = some k → ((cs.drop o).take (h.length * ks.length))[0 + i * ks.length + j]? = some (cellLV k (h.get i j)) := fun i j k hi hj => by
      have hjl : j < ks.length := (List.getElem?_eq_some_iff.1 hj).1
      have hb2 : i * ks.length + j < h.length * ks.length := by
        have : (i + 1) * ks.length ≤ h.length * ks.length := Nat.mul_le_mul_right _ hi
        rw [Nat.add_mul, Nat.one_mul] at this
        omega
      rw [Nat.zero_add, List.getElem?_take_of_lt hb2, List.getElem?_drop]
      have := hc i j k hi hj
      rwa [Nat.add_assoc] at this
    have hR := rows_of hr (by simp; omega) hat
    refine ⟨_, rfl, hR, fun x hx => ?_⟩
    obtain ⟨n, hn, rfl⟩ := List.getElem_of_mem hx
    have hn' : n < h.length * ks.length := by simp at hn; omega
    have hi : n / ks.length < h.length := Nat.div_lt_of_lt_mul (by rwa [Nat.mul_comm])
    have hj : n % ks.length < ks.length := Nat.mod_lt _ hk
    have := hat _ _ _ hi (List.getElem?_eq_getElem hj)
    rw [show 0 + n / ks.length * ks.length + n % ks.length = n by rw [Nat.zero_add, Nat.mul_comm]; exact Nat.div_add_mod n ks.length, List.getElem?_eq_getElem hn] at this
    rw [Option.some.inj this]
    cases ks[n % ks.length] <;> rfl
  have akn : ∀ {l : List LV}, (∀ x ∈ l, x.kn = true) → allKn l = true := by
    intro l
    induction l with
    | nil => intro _; rfl
    | cons x l ih => intro h; simp only [allKn, h x (by simp)]; exact ih fun y hy => h y (by simp [hy])
  rcases hd with ⟨lcs, h1, h2⟩ | ⟨base, cs, rfl, h1, h2⟩
  · obtain ⟨news, a1, a2, _⟩ := cut lcs o h2
    exact ⟨news, by simp only [rd, hl, h1, a1], a2⟩
  · obtain ⟨news, a1, a2, a3⟩ := cut cs (o - base) h2
    exact ⟨news, by simp only [rd, hl, LO.cs, (show Nat.ble base o = true by simpa using h1), cond_true, a1, akn a3], a2⟩
theorem more_list (hM : HS ν M snx H nx) {own own' : Bool} {id : Nat} {n : Int} {lx : LV} {t : TypeId} {ks : List CK} {h : Ll} (hg : M.get id = some (.list t ks own' h)) (hn : n = (h.length : Int)) (hx : VS (fs := fs) (ov := ov) ν (.ls own id n) lx) (hk : 0 < ks.length) : (h.length = 0 ∧ more H ks.length lx = some (0, [])) ∨ ∃ m news, h.length = m + 1 ∧ more H ks.length lx = some (m + 1, news) ∧ Rows ks h news := by
  obtain ⟨_, hr, hat, _⟩ := hM.at_ id _ hg
  obtain ⟨n0, ⟨rfl, h3⟩ | ⟨r, o, hν, hv⟩⟩ := hx
  · exact .inl ⟨by omega, rfl⟩
  · cases hm : h.length with
    | zero =>
      refine .inl ⟨rfl, ?_⟩
      have e0 : n.toNat = 0 := by omega
      rcases hv with ⟨_, rfl⟩ | ⟨_, cap, _, rfl⟩ <;> simp [more, e0]
    | succ m =>
      obtain ⟨r', o', lo, a1, a2, a3⟩ := hat.resolve_left (by omega)
      rw [hν] at a1; cases a1
      obtain ⟨news, b1, b2⟩ := rd_list a2 a3 hr hk (by omega)
      rw [hm] at b1
      have e0 : n.toNat = m + 1 := by omega
      refine .inr ⟨m, news, rfl, ?_, b2⟩
      rcases hv with ⟨rfl, rfl⟩ | ⟨_, cap, _, rfl⟩ <;> simp only [more, e0, b1]
theorem gotby_same' (hM : HS ν M snx H nx) {K : KS (stdA fs ov)} {v : SV (stdA fs ov)} {lv : LV} (hv : VS ν v lv) (hK : K v M snx []) : GotBy ν snx H nx K (some ⟨lv, H, nx, []⟩) :=
  ⟨_, ν, v, M, snx, [], rfl, got_same hM hv, hK⟩
theorem appNone_ok (hM : HS ν M snx H nx) {s : SV (stdA fs ov)} {ls : LV} {K : KS (stdA fs ov)} (hs : VS ν s ls) (ha : appOk s = true) (h : K s M snx []) : GotBy ν snx H nx K (appNone H nx ls) := by
  have hs' := hs
  cases s <;> simp only [appOk] at ha <;> try cases ha
  · obtain rfl := hs; exact gotby_same' hM hs' h
  · obtain ⟨r, hr, rfl⟩ := hs
    simp only [appNone, ha, cond_true]
    exact gotby_same' hM hs' h
  · obtain ⟨n0, ⟨rfl, h3⟩ | ⟨r, o, hr, ⟨_, rfl⟩ | ⟨_, c, hc, rfl⟩⟩⟩ := hs
    · exact gotby_same' hM hs' h
    · exact gotby_same' hM hs' h
    · simp only [appNone, (show Nat.ble (Int.toNat _) c = true by simpa using hc), cond_true]
      exact gotby_same' hM hs' h
theorem sAppend_ok (hM : HS ν M snx H nx) {t : TypeId} {s x : SV (stdA fs ov)} {ls lx : LV} {K : KS (stdA fs ov)} (h : sAppend P t s x M snx K) (hs : VS ν s ls) (hx : VS ν x lx) : GotBy ν snx H nx K (evAppend P t ls lx H nx) := by
  unfold sAppend at h
  split at h
  · rename_i e hu
    split at h
    · rename_i i ks hi hks
      cases hc : (Nat.beq ks.length i.size && Nat.blt 0 i.size && Nat.ble i.bytes 140737488 && zeroFits i)
      · rw [hc] at h; exact h.elim
      · rw [hc, cond_true] at h
        simp only [Bool.and_eq_true, beq_iff] at hc
        obtain ⟨⟨⟨c1, c2⟩, c3⟩, c4⟩ := hc
        have c3 : i.bytes ≤ 140737488 := by simpa using c3
        have c20 : 0 < i.size := by simpa using c2
        unfold zeroFits at c4
        split at c4
        · rename_i zv hz
          have ev : ∀ {m : Nat} {news : List LV} {hh : Ll}, more H ks.length lx = some (m + 1, news) → Rows ks hh news → evAppend P t ls lx H nx = appSome H nx e i.size i.bytes (m + 1) news ls := fun m2 m3 => by
            rw [c1] at m2
            simp only [evAppend, hu, hi, hz, nN_eq, c4, c2, Bool.and_self, cond_true, m2, m3.one]
          split at h
          · rename_i own id n
            split at h
            · rename_i t' ks' own' hh hg
              cases hb : (decide (ks' = ks) && appOk s)
              · rw [hb] at h; exact h.elim
              · rw [hb, cond_true] at h
                simp only [Bool.and_eq_true, decide_eq_true_eq] at hb
                obtain ⟨rfl, hb⟩ := hb
                obtain ⟨hn, h⟩ := h
                have hn : n = (hh.length : Int) := hn
                have e9 := more_list hM hg hn hx (by omega)
                subst hn
                rcases e9 with ⟨e0, m2⟩ | ⟨m, news, m1, m2, m3⟩
                · have hz0 : ((hh.length : Nat) : Int) = (0 : Int) := by omega
                  have h : cond (decide (((hh.length : Nat) : Int) = (0 : Int))) (K s M snx []) (sAppNe i e ks' s M snx hh K) := h
                  rw [decide_eq_true hz0, cond_true] at h
                  rw [c1] at m2
                  have e1 : evAppend P t ls lx H nx = appNone H nx ls := by
                    simp only [evAppend, hu, hi, hz, nN_eq, c4, c2, Bool.and_self, cond_true, m2]
                  rw [e1]
                  exact appNone_ok hM hs hb h
                · have hz0 : ((hh.length : Nat) : Int) ≠ (0 : Int) := by omega
                  have h : cond (decide (((hh.length : Nat) : Int) = (0 : Int))) (K s M snx []) (sAppNe i e ks' s M snx hh K) := h
                  rw [decide_eq_false hz0, cond_false] at h
                  rw [ev m2 m3]
                  exact sAppNe_ok hM c1 c3 m1 m3 h hs
            · exact h.elim
          · split at h
            · rename_i hh hmo
              obtain ⟨m, news, m1, m2, m3⟩ := sMore_ok hM hmo hx
              rw [ev m2 m3]
              exact sAppNe_ok hM c1 c3 m1 m3 h hs
            · exact h.elim
        · cases c4
    · exact h.elim
  · exact h.elim
end Go.Rx

set_option linter.unusedSimpArgs false
set_option linter.unusedVariables false
set_option linter.unusedSectionVars false
namespace Go.Rx
open Go
variable {fs : Fs} {ov : Bool} {ν : Nm} {P : Program} {T : Al (SV (stdA fs ov))} {L : Tr LV} {M : SH (stdA fs ov)} {H : Hp} {snx nx : Nat} {W : Nat → Prop}

def GotOp (ν : Nm) (snx : Nat) (H : Hp) (nx : Nat) (K : KS (stdA fs ov)) (x : Option Res) : Prop := ∃ r, x = some r ∧ r.o.nx ≤ r.mx ∧ GotBy ν snx H nx K (some r.o)
/-- The same, where a new name may stand for an old block that has been written. -/
structure GotW (ν : Nm) (snx : Nat) (H : Hp) (nx : Nat) (ν' : Nm) (v : SV (stdA fs ov)) (M' : SH (stdA fs ov)) (snx' : Nat) (wr : List Nat) (r : Out) : Prop where
  lo : Lo snx ν ν'
  nw : ∀ id q o, snx ≤ id → ν' id = some (q, o) → nx ≤ q ∨ ∃ id0 ∈ wr, id0 < snx ∧ ∃ o', ν' id0 = some (q, o')
  up : nx ≤ r.nx
  sup : snx ≤ snx'
  hs : HS ν' M' snx' r.H r.nx
  v : VS ν' v r.v
  wr : ∀ q ∈ r.wr, ∃ id ∈ wr, ∃ o, ν id = some (q, o)
  keep : ∀ q, q < nx → q ∉ r.wr → r.H.get q = H.get q
  has : ∀ q ∈ r.wr, nx ≤ q ∨ ∃ o, H.get q = some o
theorem Got.w {ν' : Nm} {v : SV (stdA fs ov)} {M' : SH (stdA fs ov)} {snx' : Nat} {wr : List Nat} {r : Out} (h : Got ν snx H nx ν' v M' snx' wr r) : GotW ν snx H nx ν' v M' snx' wr r :=
  ⟨h.lo, fun id q o h1 h2 => .inl (h.nw id q o h1 h2), h.up, h.sup, h.hs, h.v, h.wr, h.keep, h.has⟩
def GotOpW (ν : Nm) (snx : Nat) (H : Hp) (nx : Nat) (K : KS (stdA fs ov)) (x : Option Res) : Prop := ∃ (r : Res) (ν' : Nm) (v : SV (stdA fs ov)) (M' : SH (stdA fs ov)) (snx' : Nat) (wr : List Nat), x = some r ∧ r.o.nx ≤ r.mx ∧ GotW ν snx H nx ν' v M' snx' wr r.o ∧ K v M' snx' wr
theorem GotOp.w {K : KS (stdA fs ov)} {x : Option Res} (h : GotOp ν snx H nx K x) : GotOpW ν snx H nx K x := by
  obtain ⟨r, h1, h2, o, ν', v, M', snx', wr, e, h3, h4⟩ := h
  cases e
  exact ⟨r, ν', v, M', snx', wr, h1, h2, h3.w, h4⟩
structure CallSOK (cs : CallS (stdA fs ov)) (call : CallT) : Prop where
  f : ∀ (g : FuncId) (args : List (SV (stdA fs ov))) (M : SH (stdA fs ov)) (snx : Nat) (K : KS (stdA fs ov)), cs (.f g) args M snx K → noY args = true →
    ∀ (ν : Nm) (largs : List LV) (H : Hp) (nx : Nat), VSL ν args largs → HS ν M snx H nx → GotOp ν snx H nx K (call (.f g) largs H nx)
  y : ∀ (g : FuncId) (args : List (SV (stdA fs ov))) (M : SH (stdA fs ov)) (snx : Nat) (K : KS (stdA fs ov)), cs (.f g) args M snx K → noY args = false →
    ∀ (ν : Nm) (largs : List LV) (H : Hp) (nx : Nat), VSL ν args largs → HS ν M snx H nx → GotOpW ν snx H nx K (call (.f g) largs H nx)
  r : ∀ (id : Nat) (args : List (SV (stdA fs ov))) (M : SH (stdA fs ov)) (snx : Nat) (K : KS (stdA fs ov)), cs (.r id) args M snx K →
    ∀ (ν : Nm) (largs : List LV) (H : Hp) (nx r : Nat), VSL ν args largs → HS ν M snx H nx → ν id = some (r, 0) → GotOpW ν snx H nx K (call (.r r) largs H nx)
theorem gotop_of {K : KS (stdA fs ov)} {x : Option Out} (h : GotBy ν snx H nx K x) : GotOp ν snx H nx K (res x) := by
  obtain ⟨o, ν', v, M', snx', wr, rfl, hg, hk⟩ := h
  exact ⟨⟨o, o.nx⟩, rfl, Nat.le_refl _, o, ν', v, M', snx', wr, rfl, hg, hk⟩
theorem gotby_same (hM : HS ν M snx H nx) {K : KS (stdA fs ov)} {v : SV (stdA fs ov)} {lv : LV} (hv : VS ν v lv) (hK : K v M snx []) : GotBy ν snx H nx K (some ⟨lv, H, nx, []⟩) :=
  ⟨_, ν, v, M, snx, [], rfl, got_same hM hv, hK⟩
theorem sBuiltin_ok (hM : HS ν M snx H nx) {b : Builtin} {ts : List TypeId} {args : List (SV (stdA fs ov))} {la : List LV} {K : KS (stdA fs ov)} (h : sBuiltin P b ts args M snx K) (ha : VSL ν args la) : GotBy ν snx H nx K (evBuiltin P b ts la H nx) := by
  unfold sBuiltin at h
  split at h
  · rename_i t x
    obtain ⟨lx, r, rfl, hx, hr⟩ := ha
    obtain rfl := hr
    split at h
    · rename_i e hu
      obtain rfl := hx
      simp only [evBuiltin, hu]
      exact gotby_same hM (v := .i .i64 (0 : Int)) (lv := .i .i64 0) rfl h
    · rename_i e id off len cap hu
      obtain ⟨r, hr, rfl⟩ := hx
      simp only [evBuiltin, hu]
      exact gotby_same hM (v := .i .i64 (len : Int)) (lv := .i .i64 (.ofNat len)) rfl h
    · rename_i e own id n hu
      obtain ⟨hn, ⟨rfl, h3⟩ | ⟨r, o, hr, ⟨rfl, rfl⟩ | ⟨_, c, hc, rfl⟩⟩⟩ := hx
      · simp only [evBuiltin, hu]
        have h3 : n = (0 : Int) := h3
        subst h3
        exact gotby_same hM (v := .i .i64 (0 : Int)) (lv := .i .i64 0) rfl h
      · simp only [evBuiltin, hu]
        exact gotby_same hM (lv := .i .i64 (.ofNat (Int.toNat n))) (by show LV.i _ _ = LV.i _ _; rw [show Int.ofNat (Int.toNat n) = n from Int.toNat_of_nonneg hn]) h
      · simp only [evBuiltin, hu]
        exact gotby_same hM (lv := .i .i64 (.ofNat (Int.toNat n))) (by show LV.i _ _ = LV.i _ _; rw [show Int.ofNat (Int.toNat n) = n from Int.toNat_of_nonneg hn]) h
    · rename_i n e hu
      have e : evBuiltin P .len [t] [lx] H nx = some ⟨.i .i64 (.ofNat n), H, nx, []⟩ := by
        simp only [evBuiltin, hu]
      rw [e]
      exact gotby_same hM (v := .i .i64 (n : Int)) (lv := .i .i64 (.ofNat n)) rfl h
    · exact h.elim
  · rename_i k x l
    obtain ⟨lx, r, rfl, hx, hr⟩ := ha
    obtain rfl := hx
    obtain ⟨v, h1, h2⟩ := opt_ok h
    obtain ⟨lv, h3, h4⟩ := foldS_ok h1 hr
    simp only [evBuiltin, h3]
    exact gotby_same hM h4 h2
  · rename_i k x l
    obtain ⟨lx, r, rfl, hx, hr⟩ := ha
    obtain rfl := hx
    obtain ⟨v, h1, h2⟩ := opt_ok h
    obtain ⟨lv, h3, h4⟩ := foldS_ok h1 hr
    simp only [evBuiltin, h3]
    exact gotby_same hM h4 h2
  · rename_i t u s x
    obtain ⟨ls, r, rfl, hs, lx, r2, rfl, hx, hr⟩ := ha
    obtain rfl := hr
    cases hb : Nat.beq t u
    · rw [hb] at h; exact h.elim
    · rw [hb, cond_true] at h
      simp only [evBuiltin, hb, cond_true]
      exact sAppend_ok hM h hs hx
  · exact h.elim
theorem sBuildSl_ok (hF : FS ν T L) (hM : HS ν M snx H nx) {t : TypeId} {len : Nat} {ps : Array (Nat × Operand)} {K : KS (stdA fs ov)} (h : sBuildSl P T M snx t len ps K) : GotBy ν snx H nx K (evBuildSl P L H nx t len ps) := by
  unfold sBuildSl at h
  unfold evBuildSl
  split at h
  · rename_i e hu
    simp only [hu]
    split at h
    · rename_i z n l hz hs hl
      obtain ⟨lz, h1, h2⟩ := sZero_ok (ν := ν) hz
      obtain ⟨ll, h3, h4⟩ := sPartsO_ok hF hl
      simp only [h1, hs, h3, ← h2.cells.length] at h ⊢
      cases hc : (Nat.beq lz.cells.length n && Nat.blt 0 n && Nat.ble (len * n) 16777216)
      · simp only [hc, cond_false] at h <;> exact h.elim
      · simp only [hc, cond_true] at h ⊢
        cases hf : sFill (fun i => some (i * n, n)) (sRep len z.cells) l with
        | none => simp only [hf] at h <;> exact h.elim
        | some cs =>
          simp only [hf] at h
          obtain ⟨lr, h5, h6⟩ := sFill_ok hf h4 (sRep_ok h2.cells len)
          simp only [h5]
          exact sFresh_ok hM h (fun ν' hle hn H' hH => ⟨nx, lr, hn, hH, h6.mono hle⟩) (lv := .sl nx 0 len len) (fun ν' hn => ⟨nx, hn, rfl⟩) rfl
    · exact h.elim
  · exact h.elim
theorem sCallee_ok {cs : CallS (stdA fs ov)} {call : CallT} (hc : CallSOK cs call) (hF : FS ν T L) (hM : HS ν M snx H nx) {c : Call} {K : KS (stdA fs ov)} (h : sCallee P (noR cs) T M snx c K) : GotOp ν snx H nx K (evCallee P call L H nx c) := by
  unfold sCallee at h
  unfold evCallee
  split at h
  · rename_i f hcal
    simp only [hcal]
    split at h
    · rename_i args g a cap ha hf
      obtain ⟨la, h1, h2⟩ := sOs_ok hF ha
      obtain ⟨lf, h3, h4⟩ := sO_ok hF hf
      obtain ⟨a', c', rfl, h5, h6⟩ := h4
      simp only [h1, h3, callAt, ap_eq]
      cases hy : noY (a ++ (args ++ cap)) with
      | false => rw [hy] at h; exact h.elim
      | true =>
        rw [hy] at h
        exact hc.f g _ M snx K h hy ν _ H nx (h5.append (h2.append h6)) hM
    · exact h.elim
    · exact h.elim
  · rename_i b hcal
    simp only [hcal]
    split at h
    · rename_i args ha
      obtain ⟨la, h1, h2⟩ := sOs_ok hF ha
      simp only [h1]
      exact gotop_of (sBuiltin_ok hM h h2)
    · exact h.elim
  · exact h.elim
theorem sCallee_okW {cs : CallS (stdA fs ov)} {call : CallT} (hc : CallSOK cs call) (hF : FS ν T L) (hM : HS ν M snx H nx) {c : Call} {K : KS (stdA fs ov)} (h : sCallee P cs T M snx c K) : GotOpW ν snx H nx K (evCallee P call L H nx c) := by
  unfold sCallee at h
  unfold evCallee
  split at h
  · rename_i f hcal
    simp only [hcal]
    split at h
    · rename_i args g a cap ha hf
      obtain ⟨la, h1, h2⟩ := sOs_ok hF ha
      obtain ⟨lf, h3, h4⟩ := sO_ok hF hf
      obtain ⟨a', c', rfl, h5, h6⟩ := h4
      simp only [h1, h3, callAt, ap_eq]
      cases hy : noY (a ++ (args ++ cap)) with
      | false => rw [hy] at h; exact h.elim
      | true =>
        rw [hy] at h
        exact (hc.f g _ M snx K h hy ν _ H nx (h5.append (h2.append h6)) hM).w
    · rename_i args id ha hf
      obtain ⟨la, h1, h2⟩ := sOs_ok hF ha
      obtain ⟨lf, h3, h4⟩ := sO_ok hF hf
      obtain ⟨r, hr, rfl⟩ := h4
      simp only [h1, h3, callAt]
      exact hc.r id _ M snx K h ν _ H nx r h2 hM hr
    · exact h.elim
  · rename_i b hcal
    simp only [hcal]
    split at h
    · rename_i args ha
      obtain ⟨la, h1, h2⟩ := sOs_ok hF ha
      simp only [h1]
      exact (gotop_of (sBuiltin_ok hM h h2)).w
    · exact h.elim
  · exact h.elim
theorem sOp_ok {cs : CallS (stdA fs ov)} {call : CallT} (hc : CallSOK cs call) (hF : FS ν T L) (hM : HS ν M snx H nx) {op : Op} {K : KS (stdA fs ov)} (h : sOp P cs T M snx op K) : GotOpW ν snx H nx K (evOp P call L H nx op) := by
  have pure : ∀ {op : Op}, sPure P T op (fun v => K v M snx []) → evOp P call L H nx op = res (evPureO P L H nx op) → GotOpW ν snx H nx K (evOp P call L H nx op) := fun {op} hp he => by
    obtain ⟨v, lv, h1, h2, h3⟩ := sPure_ok hF hp
    rw [he]
    refine (gotop_of ?_).w
    simp only [evPureO, h1]
    exact gotby_same hM h2 h3
  cases op
  case load t x =>
    obtain ⟨v, lv, h1, h2, h3⟩ := sLoad_val hF (fun id so _ hg => (hM.at_ id so hg).2) h
    exact (gotop_of (x := evLoad P L H nx t x) (h1 ▸ gotby_same hM h2 h3)).w
  case store t x y => exact (gotop_of (sStore_ok hF hM h)).w
  case alloc t =>
    simp only [sOp] at h
    split at h
    · rename_i z hz
      obtain ⟨lz, h1, h2⟩ := sZero_ok (ν := ν) hz
      simp only [evOp, evAlloc, h1]
      exact (gotop_of (sFresh_ok hM h (fun ν' hle hn H' hH => ⟨nx, lz.cells, hn, hH, h2.cells.mono hle⟩) (lv := .p nx 0) (fun ν' hn => ⟨nx, hn, rfl⟩) rfl)).w
    · exact h.elim
  case box t x =>
    simp only [sOp] at h
    split at h
    · rename_i z hz
      obtain ⟨lz, h1, h2⟩ := sO_ok hF hz
      simp only [evOp, evBox, h1]
      exact (gotop_of (sFresh_ok hM h (fun ν' hle hn H' hH => ⟨nx, lz.cells, hn, hH, h2.cells.mono hle⟩) (lv := .p nx 0) (fun ν' hn => ⟨nx, hn, rfl⟩) rfl)).w
    · exact h.elim
  case buildSlice t len ps => exact (gotop_of (sBuildSl_ok hF hM h)).w
  case call c => exact sCallee_okW hc hF hM h
  case makeSlice t l c => exact absurd h (by simp [sOp, sPure])
  all_goals exact pure h rfl

/-! ### Regions -/
theorem sPut_ok (hF : FS ν T L) {N : Nat} {dst : Option Tmp} {v : SV (stdA fs ov)} {lv : LV} {K : Al (SV (stdA fs ov)) → Prop} (h : sPut T N dst v K) (hv : VS ν v lv) : ∃ T' L', putT L N dst lv = some L' ∧ FS ν T' L' ∧ K T' := by
  cases dst with
  | none => exact ⟨T, L, rfl, hF, h⟩
  | some d =>
    simp only [sPut] at h
    cases hb : Nat.blt d N
    · simp only [hb, cond_false] at h <;> exact h.elim
    · simp only [hb, cond_true, Al.force_eq] at h
      refine ⟨_, L.set d (some lv), by simp [putT, hb, Tr.force_eq], ⟨fun t u hu => ?_⟩, h⟩
      rw [Al.get_set] at hu; rw [Tr.get_set]
      by_cases e : t = d
      · rw [if_pos e] at hu ⊢; cases hu; exact ⟨lv, rfl, hv⟩
      · rw [if_neg e] at hu ⊢; exact hF.at_ t u hu
theorem fs_know (hF : FS ν T L) {d : Nat} {x : Bool} (hx : T.get d = some (.b x)) : FS ν (T.set d (some (.b x))) L := ⟨fun t u hu => by
  rw [Al.get_set] at hu
  by_cases e : t = d
  · rw [if_pos e] at hu; cases hu; subst e; exact hF.at_ _ _ hx
  · rw [if_neg e] at hu; exact hF.at_ t u hu⟩
theorem sWant_ok (hF : FS ν T L) {ops : Array Oper} {o : Oper} {yes no : Al (SV (stdA fs ov)) → Prop} (h : sWant ops T o yes no) :
    (∃ T', want ops L o = some true ∧ FS ν T' L ∧ yes T') ∨ (∃ T', want ops L o = some false ∧ FS ν T' L ∧ no T') := by
  unfold sWant at h
  unfold want
  cases hg : o.guard with
  | none => simp only [hg] at h; exact .inl ⟨T, rfl, hF, h⟩
  | some q =>
    obtain ⟨j, w⟩ := q
    simp only [hg] at h ⊢
    cases hd : (ops[j]?).bind (·.dst) with
    | none => simp only [hd] at h; exact .inr ⟨T, rfl, hF, h⟩
    | some d =>
      simp only [hd] at h ⊢
      split at h
      · rename_i x hx
        obtain ⟨lv, h1, h2⟩ := hF.at_ d _ hx
        obtain rfl := h2
        simp only [h1]
        have h' : cond x _ _ := h
        cases x
        · simp only [Al.force_eq, cond_false] at h'
          cases w
          · exact .inl ⟨_, rfl, fs_know hF hx, h'⟩
          · exact .inr ⟨_, rfl, fs_know hF hx, h'⟩
        · simp only [Al.force_eq, cond_true] at h'
          cases w
          · exact .inr ⟨_, rfl, fs_know hF hx, h'⟩
          · exact .inl ⟨_, rfl, fs_know hF hx, h'⟩
      · rename_i hx
        obtain ⟨lv, h1, h2⟩ := hF.at_ d _ hx
        obtain ⟨l', rfl, hl⟩ := h2
        obtain rfl := hl
        exact .inr ⟨T, by simp only [h1], hF, h⟩
      · exact h.elim
structure Sim (W : Nat → Prop) (ν : Nm) (s : SS (stdA fs ov)) (S : Rx.S) : Prop where
  N : S.N = s.N
  T : FS ν s.T S.T
  H : HS ν s.H s.nx S.H S.nx
  mx : S.nx ≤ S.mx
  wr : ∀ q ∈ S.wr, W q ∨ ∃ id ∈ s.wr, ∃ o, ν id = some (q, o)
  wup : ∀ q, S.nx ≤ q → W q
/-- The marks of ranges over functions: new, named by nothing. -/
def DfOK (ν' : Nm) (S S' : Rx.S) : Prop := ∃ ds, S'.df = ds ++ S.df ∧ ds.Nodup ∧ ∀ d ∈ ds, S.nx ≤ d ∧ d < S'.nx ∧ S'.H.get d = some .dfr ∧ ∀ id o, ν' id ≠ some (d, o)
theorem DfOK.of {ν' : Nm} {S S' : Rx.S} (h : S'.df = S.df) : DfOK ν' S S' := ⟨[], h, List.nodup_nil, fun d hd => by cases hd⟩
theorem DfOK.then {ν1 ν2 : Nm} {S S1 S2 : Rx.S} (h : DfOK ν1 S S1) (h' : DfOK ν2 S1 S2) (u1 : S.nx ≤ S1.nx) (u2 : S1.nx ≤ S2.nx)
    (hk : ∀ d, d < S1.nx → S.nx ≤ d → (∀ id o, ν1 id ≠ some (d, o)) → (∀ id o, ν2 id ≠ some (d, o)) ∧ S2.H.get d = S1.H.get d) : DfOK ν2 S S2 := by
  obtain ⟨d1, a1, a2, a3⟩ := h
  obtain ⟨d2, b1, b2, b3⟩ := h'
  refine ⟨d2 ++ d1, by rw [b1, a1, List.append_assoc], List.nodup_append.2 ⟨b2, a2, fun x hx y hy e => ?_⟩, fun d hd => ?_⟩
  · subst e; have := (b3 x hx).1; have := (a3 x hy).2.1; omega
  · rcases List.mem_append.1 hd with hd | hd
    · obtain ⟨c1, c2, c3, c4⟩ := b3 d hd
      exact ⟨Nat.le_trans u1 c1, c2, c3, c4⟩
    · obtain ⟨c1, c2, c3, c4⟩ := a3 d hd
      obtain ⟨e1, e2⟩ := hk d c2 c1 c4
      exact ⟨c1, Nat.lt_of_lt_of_le c2 u2, by rw [e2]; exact c3, e1⟩
/-- The same, from other states and under other names. -/
theorem DfOK.re {ν1 ν2 : Nm} {S S' : Rx.S} (h : DfOK ν1 S S') (hn : ∀ d id o, S.nx ≤ d → ν2 id = some (d, o) → ∃ id' o', ν1 id' = some (d, o')) : DfOK ν2 S S' := by
  obtain ⟨ds, a1, a2, a3⟩ := h
  exact ⟨ds, a1, a2, fun d hd => ⟨(a3 d hd).1, (a3 d hd).2.1, (a3 d hd).2.2.1, fun id o e => let ⟨id', o', e'⟩ := hn d id o (a3 d hd).1 e; (a3 d hd).2.2.2 id' o' e'⟩⟩
/-- From one state to a later one. -/
structure XT (ν : Nm) (s : SS (stdA fs ov)) (S : Rx.S) (ν' : Nm) (s' : SS (stdA fs ov)) (S' : Rx.S) : Prop where
  lo : Lo s.nx ν ν'
  nw : ∀ id q o, s.nx ≤ id → ν' id = some (q, o) → S.nx ≤ q ∨ ∃ id0 ∈ s'.wr, id0 < s.nx ∧ ∃ o', ν' id0 = some (q, o')
  up : S.nx ≤ S'.nx
  sup : s.nx ≤ s'.nx
  wr : ∀ q ∈ S.wr, q ∈ S'.wr
  swr : ∀ id ∈ s.wr, id ∈ s'.wr
  keepS : ∀ q, q < S.nx → (∀ id ∈ s'.wr, ∀ o, ν' id ≠ some (q, o)) → S'.H.get q = S.H.get q
  keep : ∀ q, q < S.nx → q ∉ S'.wr → S'.H.get q = S.H.get q
  has : ∀ q ∈ S'.wr, q ∈ S.wr ∨ S.nx ≤ q ∨ ∃ o, S.H.get q = some o
  df : DfOK ν' S S'
theorem XT.refl {s : SS (stdA fs ov)} {S : Rx.S} (hM : HS ν s.H s.nx S.H S.nx) : XT ν s S ν s S := ⟨fun _ _ => rfl, fun id q o h1 h2 => by have := (hM.lt id q o h2).2; omega, Nat.le_refl _, Nat.le_refl _, fun _ h => h, fun _ h => h, fun _ _ _ => rfl, fun _ _ _ => rfl, fun q hq => .inl hq, .of rfl⟩
theorem XT.trans {ν1 ν2 : Nm} {s s1 s2 : SS (stdA fs ov)} {S S1 S2 : Rx.S} (h : XT ν s S ν1 s1 S1) (hs : Sim W ν1 s1 S1) (h' : XT ν1 s1 S1 ν2 s2 S2) : XT ν s S ν2 s2 S2 := by
  refine ⟨fun id hid => ?_, fun id q o h1 h2 => ?_, Nat.le_trans h.up h'.up, Nat.le_trans h.sup h'.sup, fun q hq => h'.wr q (h.wr q hq), fun q hq => h'.swr q (h.swr q hq), fun q hq hn => ?_, fun q hq hn => ?_, fun q hq => ?_, h.df.then h'.df h.up h'.up fun d hd hd0 hn => ?_⟩
  · rw [h'.lo id (Nat.lt_of_lt_of_le hid h.sup), h.lo id hid]
  · have up1 : (S.nx ≤ q ∨ ∃ id0 ∈ s1.wr, id0 < s.nx ∧ ∃ o', ν1 id0 = some (q, o')) → S.nx ≤ q ∨ ∃ id0 ∈ s2.wr, id0 < s.nx ∧ ∃ o', ν2 id0 = some (q, o') := fun h3 => h3.imp_right fun ⟨id0, a1, a2, o', a3⟩ => ⟨id0, h'.swr id0 a1, a2, o', by rw [h'.lo id0 (Nat.lt_of_lt_of_le a2 h.sup)]; exact a3⟩
    by_cases hlt : id < s1.nx
    · rw [h'.lo id hlt] at h2; exact up1 (h.nw id q o h1 h2)
    · rcases h'.nw id q o (by omega) h2 with h3 | ⟨id0, a1, a2, o', a3⟩
      · exact .inl (Nat.le_trans h.up h3)
      · by_cases h0 : id0 < s.nx
        · exact .inr ⟨id0, a1, h0, o', a3⟩
        · rw [h'.lo id0 a2] at a3
          exact up1 (h.nw id0 q o' (by omega) a3)
  · rw [h'.keepS q (Nat.lt_of_lt_of_le hq h.up) hn, h.keepS q hq fun id hid o he => ?_]
    have hlt := (hs.H.lt id q o he).2
    exact hn id (h'.swr id hid) o (by rw [h'.lo id hlt]; exact he)
  · rw [h'.keep q (Nat.lt_of_lt_of_le hq h.up) hn, h.keep q hq fun hq' => hn (h'.wr q hq')]
  · rcases h'.has q hq with h1 | h1 | ⟨o, h1⟩
    · exact h.has q h1
    · exact .inr (.inl (Nat.le_trans h.up h1))
    · by_cases hlt : S.nx ≤ q
      · exact .inr (.inl hlt)
      · by_cases hw : q ∈ S1.wr
        · exact h.has q hw
        · exact .inr (.inr ⟨o, by rw [← h.keep q (by omega) hw]; exact h1⟩)
  · have hu : ∀ id o, ν2 id ≠ some (d, o) := fun id o e => by
      by_cases hlt : id < s1.nx
      · rw [h'.lo id hlt] at e; exact hn id o e
      · rcases h'.nw id d o (by omega) e with h3 | ⟨id0, a1, a2, o', a3⟩
        · omega
        · rw [h'.lo id0 a2] at a3; exact hn id0 o' a3
    exact ⟨hu, h'.keepS d hd fun id _ o => hu id o⟩
def GoS (W : Nat → Prop) (ν : Nm) (s : SS (stdA fs ov)) (S : Rx.S) (K : SS (stdA fs ov) → Prop) (x : Option Rx.S) : Prop := ∃ S' ν' s', x = some S' ∧ XT ν s S ν' s' S' ∧ Sim W ν' s' S' ∧ K s'
theorem Lo.nle {ν' : Nm} (hM : HS ν M snx H nx) (h : Lo snx ν ν') : NLe ν ν' := hM.le h
theorem sOps_ok {cs : CallS (stdA fs ov)} {call : CallT} (hc : CallSOK cs call) {ops : Array Oper} : ∀ {l : List Oper} {ν : Nm} {s : SS (stdA fs ov)} {S : Rx.S} {K : SS (stdA fs ov) → Prop}, sOps P cs ops l s K → Sim W ν s S → GoS W ν s S K (evOps P call ops l S)
  | [], ν, s, S, K, h, hs => ⟨S, ν, s, rfl, XT.refl hs.H, hs, h⟩
  | o :: rest, ν, ⟨T, N, M, snx, wr⟩, ⟨L, N', H, nx, lw, df, mx⟩, K, h, hs => by
    obtain rfl : N' = N := hs.N
    simp only [sOps] at h
    rcases sWant_ok hs.T h with ⟨T', hw, hF, h⟩ | ⟨T', hw, hF, h⟩
    · obtain ⟨r, ν', v, M', snx', wr', he, hmx, hg, h⟩ := sOp_ok hc hF hs.H h
      obtain ⟨⟨lv, H', nx', lw'⟩, m⟩ := r
      have hle := hs.H.le hg.lo
      have hF' : FS ν' T' L := ⟨fun t u hu => let ⟨lv, a, b⟩ := hF.at_ t u hu; ⟨lv, a, b.mono hle⟩⟩
      obtain ⟨T2, L2, hp, hF2, h⟩ := sPut_ok hF' h hg.v
      have hup : nx ≤ nx' := hg.up
      have hmx : nx' ≤ m := hmx
      have b1 : Nat.ble nx nx' = true := by simpa using hup
      have b2 : Nat.ble nx' m = true := by simpa using hmx
      have hsim : Sim W ν' ⟨T2, N', M', snx', addW wr' wr⟩ ⟨L2, N', H', nx', addW lw' lw, df, more' mx m⟩ := by
        refine ⟨rfl, hF2, hg.hs, Nat.le_trans hmx (more'_le _ _).2, fun q hq => ?_, fun q hq => hs.wup q (Nat.le_trans hup hq)⟩
        rcases mem_addW.1 hq with hq | hq
        · obtain ⟨id, h1, o, h2⟩ := hg.wr q hq
          exact .inr ⟨id, mem_addW.2 (.inl h1), o, hle _ _ h2⟩
        · rcases hs.wr q hq with hW | ⟨id, h1, o, h2⟩
          · exact .inl hW
          · exact .inr ⟨id, mem_addW.2 (.inr h1), o, hle _ _ h2⟩
      have hxt : XT ν ⟨T, N', M, snx, wr⟩ ⟨L, N', H, nx, lw, df, mx⟩ ν' ⟨T2, N', M', snx', addW wr' wr⟩ ⟨L2, N', H', nx', addW lw' lw, df, more' mx m⟩ :=
        ⟨hg.lo, fun id q o h1 h2 => (hg.nw id q o h1 h2).imp_right fun ⟨id0, a, b⟩ => ⟨id0, mem_addW.2 (.inl a), b⟩, hup, hg.sup, fun q hq => mem_addW.2 (.inr hq), fun id hid => mem_addW.2 (.inr hid), fun q hq hn => hg.keep q hq fun hq' => (by
          obtain ⟨id, h1, o, h2⟩ := hg.wr q hq'
          exact hn id (mem_addW.2 (.inl h1)) o (hle _ _ h2)), fun q hq hn => hg.keep q hq fun hq' => hn (mem_addW.2 (.inl hq')), fun q hq => (mem_addW.1 hq).elim (fun h => .inr (hg.has q h)) .inl, .of rfl⟩
      obtain ⟨S', ν2, s2, h1, h2, h3, h4⟩ := sOps_ok hc h hsim
      refine ⟨S', ν2, s2, ?_, hxt.trans hsim h2, h3, h4⟩
      simp only [evOps, hw, he, b1, b2, Bool.and_true, cond_true, hp, nN_eq]
      exact (match_self (addW lw' lw) fun w => evOps P call ops rest ⟨L2, N', H', nx', w, df, more' mx m⟩).trans h1
    · obtain ⟨T2, L2, hp, hF2, h⟩ := sPut_ok hF h (show VS ν (.tup []) (.tup []) from ⟨[], rfl, rfl⟩)
      have hsim : Sim W ν ⟨T2, N', M, snx, wr⟩ ⟨L2, N', H, nx, lw, df, mx⟩ := ⟨rfl, hF2, hs.H, hs.mx, hs.wr, hs.wup⟩
      obtain ⟨S', ν2, s2, h1, h2, h3, h4⟩ := sOps_ok hc h hsim
      refine ⟨S', ν2, s2, ?_, ⟨h2.lo, h2.nw, h2.up, h2.sup, h2.wr, h2.swr, h2.keepS, h2.keep, h2.has, h2.df⟩, h3, h4⟩
      simp only [evOps, hw, hp]
      exact h1
end Go.Rx
