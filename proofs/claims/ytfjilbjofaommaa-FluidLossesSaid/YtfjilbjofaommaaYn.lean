/-
  A symbolic run: the algebra of integers, truth values and lists; what its values and memory say of the run of closed code. No program.
  A symbolic run: operations that do not look at memory. No program.
  A symbolic run: every operation that does not look at memory. No program.
  A symbolic run: memory. No program.
  A symbolic run: what is appended. No program.
  A symbolic run: append. No program.
  A symbolic run: the builtin append. No program.
  A symbolic run: operations, regions that keep their order. No program.
  A symbolic run: regions that draw their order. No program.
  A symbolic run: regions that draw their order, whole. No program.
  A symbolic run: codes, calls. No program.
  A symbolic run: what a call leaves; calls. No program.
  A symbolic run: what it says of calls that only read. No program.
  A symbolic run: from a call of the run to a call of the machine. No program.
  A symbolic run: loops by invariants. No program.
  A symbolic run: loops that are told of, by function and path. No program.
-/
import Derived.Test.YtfjilbjofaommaaYa
import Derived.Test.YtfjilbjofaommaaZx
set_option linter.unusedSimpArgs false
set_option linter.unusedVariables false
set_option linter.unusedSectionVars false
namespace Go.Rx
open Go

theorem Al.force_eq {α β : Type} (t : Al α) (K : Al α → β) : t.force K = K t := rfl
theorem Al.get_l {α : Type} (j : Nat) : (Al.l : Al α).get j = none := rfl
theorem Al.get_set {α : Type} (t : Al α) (k j : Nat) (x : Option α) : (t.set k x).get j = if j = k then x else t.get j := by
  show (match Nat.beq j k with | true => x | false => t.get j) = _
  by_cases h : j = k
  · rw [(beq_iff _ _).2 h, if_pos h]
  · rw [(beq_false _ _).2 h, if_neg h]
theorem Al.get_set_same {α : Type} (t : Al α) (k : Nat) (x : Option α) : (t.set k x).get k = x := by rw [Al.get_set, if_pos rfl]
theorem Al.get_set_ne {α : Type} (t : Al α) {k j : Nat} (x : Option α) (h : j ≠ k) : (t.set k x).get j = t.get j := by rw [Al.get_set, if_neg h]
def InK : IntKind → Int → Prop
  | .i64, n => -9223372036854775808 ≤ n ∧ n ≤ 9223372036854775807
  | k, n => k.wrap n = n
theorem InK.wrap {k : IntKind} {n : Int} (h : InK k n) : k.wrap n = n := by
  cases k <;> first | exact h | exact wrap_small h.1 (by have := h.2; omega)
def bitsI (op : BinOp) (k : IntKind) (x y : Int) : Int := match op with
  | .and => k.wrap (BitVec.ofInt k.bits x &&& BitVec.ofInt k.bits y).toNat
  | .or => k.wrap (BitVec.ofInt k.bits x ||| BitVec.ofInt k.bits y).toNat
  | .xor => k.wrap (BitVec.ofInt k.bits x ^^^ BitVec.ofInt k.bits y).toNat
  | _ => k.wrap (BitVec.ofInt k.bits x &&& ~~~ BitVec.ofInt k.bits y).toNat
def notI (k : IntKind) (x : Int) : Int := bitsI .xor k (if k.signed then -1 else k.max) x
def shI (op : BinOp) (k : IntKind) (x y : Int) : Int := match op with
  | .shl => k.wrap (x * 2 ^ (min y.toNat k.bits))
  | _ => x.fdiv (2 ^ (min y.toNat k.bits))
def boolI (b : Bool) : Int := match b with | true => 1 | false => 0

/-! ### Lists of rows of integers -/
abbrev Ll := List (List Int)
def Ll.len (h : Ll) : Int := h.length
def Ll.get (h : Ll) (i : Int) (j : Nat) : Int := (h.getD i.toNat []).getD j 0
def Ll.getB (h : Ll) (i : Int) (j : Nat) : Bool := decide (h.get i j ≠ 0)
def Ll.set (h : Ll) (i : Int) (j : Nat) (v : Int) : Ll := List.set h i.toNat ((h.getD i.toNat []).set j v)
def cmpB (op : BinOp) (a b : Int) : Bool := match op with
  | .eql => decide (a = b)
  | .neq => decide (a ≠ b)
  | .lss => decide (a < b)
  | .leq => decide (a ≤ b)
  | .gtr => decide (a > b)
  | _ => decide (a ≥ b)
def cmpP (op : BinOp) (a b : Int) : Prop := match op with
  | .eql => a = b
  | .neq => a ≠ b
  | .lss => a < b
  | .leq => a ≤ b
  | .gtr => a > b
  | _ => a ≥ b
/-- Functions that are named by numbers. -/
structure Fs where
  i : Nat → List Ll → List Int → Int
  b : Nat → List Ll → List Int → Bool
  l : Nat → List Ll → List Int → Ll
  rng : FuncId → List Bool → Option (Array Tmp × Code × Code) := fun _ _ => none
def binI (ov : Bool) (op : BinOp) (k : IntKind) (a b : Int) (K : Int → Prop) : Prop := match op with
  | .add => (match ov with | true => InK k (a + b) ∧ K (a + b) | false => K (k.wrap (a + b)))
  | .sub => (match ov with | true => InK k (a - b) ∧ K (a - b) | false => K (k.wrap (a - b)))
  | .mul => (match ov with | true => InK k (a * b) ∧ K (a * b) | false => K (k.wrap (a * b)))
  | .quo => (match ov with | true => b ≠ 0 ∧ (InK k (a.tdiv b) ∧ K (a.tdiv b)) | false => b ≠ 0 ∧ K (k.wrap (a.tdiv b)))
  | .rem => b ≠ 0 ∧ K (a.tmod b)
  | .and => K (bitsI .and k a b)
  | .or => K (bitsI .or k a b)
  | .xor => K (bitsI .xor k a b)
  | .andNot => K (bitsI .andNot k a b)
  | _ => False
def unI (ov : Bool) (op : UnOp) (k : IntKind) (a : Int) (K : Int → Prop) : Prop := match op with
  | .neg => (match ov with | true => InK k (0 - a) ∧ K (0 - a) | false => K (k.wrap (0 - a)))
  | .xor => K (notI k a)
  | _ => False
abbrev stdA (fs : Fs) (ov : Bool) : Alg where
  I := Int
  B := Bool
  L := Ll
  R := Prop
  lit := fun n => n
  ofB := fun b => b
  bin := binI ov
  un := unI ov
  sh := fun op k a b K => 0 ≤ b ∧ K (shI op k a b)
  conv := fun k a K => match ov with | true => InK k a ∧ K a | false => K (k.wrap a)
  cmp := cmpB
  not := fun x => !x
  and := fun x y => x && y
  iff := fun x y => x == y
  min := minL
  max := maxL
  br := fun b x y => cond b (x ()) (y ())
  need := fun op a b r => cmpP op a b ∧ r
  fail := fun _ => False
  len := Ll.len
  get := Ll.get
  getB := Ll.getB
  set := Ll.set
  setB := fun h i j v => Ll.set h i j (boolI v)
  nil := []
  row := fun l => [l.map fun x => match x with | .inl n => n | .inr b => boolI b]
  cat := fun a b => a ++ b
  app := fs.i
  appB := fs.b
  appL := fs.l

/-! ### What symbolic values and memory say -/
abbrev Nm := Nat → Option (Nat × Nat)
variable {fs : Fs} {ov : Bool}
/-- A slice of n elements. -/
def LSr (x : Option (Nat × Nat)) (own : Bool) (n : Int) (v : LV) : Prop := 0 ≤ n ∧ ((v = .nils ∧ n = 0) ∨ ∃ r o, x = some (r, o) ∧ ((o = 0 ∧ v = .gs r 0 0 n.toNat) ∨ (own = false ∧ ∃ cap, n.toNat ≤ cap ∧ v = .sl r o n.toNat cap)))
mutual
def VS (ν : Nm) : SV (stdA fs ov) → LV → Prop
  | .b x, v => v = .b x
  | .i k n, v => v = .i k n
  | .s x, v => v = .s x
  | .nilp, v => v = .nilp
  | .p id off, v => ∃ r, ν id = some (r, 0) ∧ v = .p r off
  | .pe id z i j, v => ∃ r o, ν id = some (r, o) ∧ 0 ≤ i ∧ v = .p r (o + i.toNat * z + j)
  | .nils, v => v = .nils
  | .sl id off len cap, v => ∃ r, ν id = some (r, 0) ∧ v = .sl r off len cap
  | .ls own id n, v => LSr (ν id) own n v
  | .fn f a c, v => ∃ a' c', v = .fn (.func f) a' c' ∧ VSL ν a a' ∧ VSL ν c c'
  | .yld id, v => ∃ r, ν id = some (r, 0) ∧ v = .yld r
  | .nilf, v => v = .nilf
  | .nili, v => v = .nili
  | .agg l, v => ∃ l', v = .agg l' ∧ VSL ν l l'
  | .tup l, v => ∃ l', v = .tup l' ∧ VSL ν l l'
def VSL (ν : Nm) : List (SV (stdA fs ov)) → List LV → Prop
  | [], vs => vs = []
  | x :: l, vs => ∃ y r, vs = y :: r ∧ VS ν x y ∧ VSL ν l r
end
/-- Names below a bound stay as they are. -/
def Lo (n : Nat) (ν ν' : Nm) : Prop := ∀ id, id < n → ν' id = ν id
def NLe (ν ν' : Nm) : Prop := ∀ id x, ν id = some x → ν' id = some x
def cellLV : CK → Int → LV
  | .int k, n => .i k n
  | .bool, n => .b (decide (n ≠ 0))
def cellsOK (lcs : List LV) (o : Nat) (ks : List CK) (h : Ll) : Prop := ∀ (i j : Nat) (k : CK), i < h.length → ks[j]? = some k → lcs[o + i * ks.length + j]? = some (cellLV k (h.get i j))
/-- What can be read of an object from an offset on. -/
def RD (lo : LO) (o : Nat) (ks : List CK) (h : Ll) : Prop := (∃ lcs, lo.cs = some lcs ∧ cellsOK lcs o ks h) ∨ ∃ base cs, lo = .ro base cs ∧ base ≤ o ∧ cellsOK cs (o - base) ks h
structure FS (ν : Nm) (T : Al (SV (stdA fs ov))) (L : Tr LV) : Prop where
  at_ : ∀ t v, T.get t = some v → ∃ lv, L.get t = some lv ∧ VS ν v lv
def OS (ν : Nm) (H : Hp) (id : Nat) : SO (stdA fs ov) → Prop
  | .row t cs => ∃ r lcs, ν id = some (r, 0) ∧ H.get r = some (.row t lcs) ∧ VSL ν cs lcs
  | .list t ks own h => (∀ x ∈ h, x.length = ks.length) ∧ (h.length = 0 ∨ ∃ r o lo, ν id = some (r, o) ∧ H.get r = some lo ∧ RD lo o ks h) ∧
      (own = true → ∀ r o, ν id = some (r, o) → o = 0 ∧ ∃ lcs, H.get r = some (.gro t ks.length lcs) ∧ lcs.length = h.length * ks.length ∧ cellsOK lcs 0 ks h)
  | .frm g p N T b e => ∃ r ps as body d L, ν id = some (r, 0) ∧ H.get r = some (.loop (bif b then .busy else e.st) e.code N L ps as body d) ∧ FS ν T L ∧ fs.rng g p = some (ps, as, body) ∧ (b = true → e = .normal)
structure HS (ν : Nm) (M : SH (stdA fs ov)) (snx : Nat) (H : Hp) (nx : Nat) : Prop where
  at_ : ∀ id so, M.get id = some so → id < snx ∧ OS ν H id so
  lt : ∀ id r o, ν id = some (r, o) → r < nx ∧ id < snx
  inj : ∀ id id' r o o' so so', M.get id = some so → so.mine = true → M.get id' = some so' → ν id = some (r, o) → ν id' = some (r, o') → id = id'

mutual
theorem VS.mono {ν ν' : Nm} (h : NLe ν ν') : ∀ {x : SV (stdA fs ov)} {v : LV}, VS ν x v → VS ν' x v
  | .b _, _, hv => hv
  | .i _ _, _, hv => hv
  | .s _, _, hv => hv
  | .nilp, _, hv => hv
  | .p _ _, _, hv => by obtain ⟨r, h1, e⟩ := hv; exact ⟨r, h _ _ h1, e⟩
  | .pe _ _ _ _, _, hv => by obtain ⟨r, o, h1, h2, e⟩ := hv; exact ⟨r, o, h _ _ h1, h2, e⟩
  | .nils, _, hv => hv
  | .sl _ _ _ _, _, hv => by obtain ⟨r, h1, e⟩ := hv; exact ⟨r, h _ _ h1, e⟩
  | .ls _ _ _, _, hv => by
    obtain ⟨h0, hv⟩ := hv
    refine ⟨h0, hv.imp_right ?_⟩
    rintro ⟨r, o, h1, e⟩
    exact ⟨r, o, h _ _ h1, e⟩
  | .fn _ _ _, _, hv => by obtain ⟨a, c, e, h1, h2⟩ := hv; exact ⟨a, c, e, VSL.mono h h1, VSL.mono h h2⟩
  | .yld _, _, hv => by obtain ⟨r, h1, e⟩ := hv; exact ⟨r, h _ _ h1, e⟩
  | .nilf, _, hv => hv
  | .nili, _, hv => hv
  | .agg _, _, hv => by obtain ⟨a, e, h1⟩ := hv; exact ⟨a, e, VSL.mono h h1⟩
  | .tup _, _, hv => by obtain ⟨a, e, h1⟩ := hv; exact ⟨a, e, VSL.mono h h1⟩
theorem VSL.mono {ν ν' : Nm} (h : NLe ν ν') : ∀ {l : List (SV (stdA fs ov))} {vs : List LV}, VSL ν l vs → VSL ν' l vs
  | [], _, hv => hv
  | _ :: _, _, hv => by obtain ⟨y, r, e, h1, h2⟩ := hv; exact ⟨y, r, e, VS.mono h h1, VSL.mono h h2⟩
end
variable {ν ν' : Nm}
theorem FS.up {T : Al (SV (stdA fs ov))} {L : Tr LV} (hF : FS ν T L) (h : NLe ν ν') : FS ν' T L := ⟨fun t v ht => let ⟨lv, a, b⟩ := hF.at_ t v ht; ⟨lv, a, b.mono h⟩⟩
theorem VSL.nil : VSL (fs := fs) (ov := ov) ν [] [] := rfl
theorem VSL.cons {x : SV (stdA fs ov)} {y : LV} {l : List (SV (stdA fs ov))} {vs : List LV} (h : VS ν x y) (h' : VSL ν l vs) : VSL ν (x :: l) (y :: vs) := ⟨y, vs, rfl, h, h'⟩
theorem VSL.length : ∀ {l : List (SV (stdA fs ov))} {vs : List LV}, VSL ν l vs → vs.length = l.length
  | [], _, h => by rw [h]; rfl
  | _ :: _, _, h => by obtain ⟨y, r, e, _, h2⟩ := h; rw [e]; simp [VSL.length h2]
theorem VSL.append : ∀ {l l' : List (SV (stdA fs ov))} {vs vs' : List LV}, VSL ν l vs → VSL ν l' vs' → VSL ν (l ++ l') (vs ++ vs')
  | [], _, _, _, h, h' => by rw [h]; exact h'
  | _ :: _, _, _, _, h, h' => by obtain ⟨y, r, e, h1, h2⟩ := h; rw [e]; exact ⟨y, _, rfl, h1, VSL.append h2 h'⟩
theorem VSL.get : ∀ {l : List (SV (stdA fs ov))} {vs : List LV} {k : Nat} {x : SV (stdA fs ov)}, VSL ν l vs → l[k]? = some x → ∃ v, vs[k]? = some v ∧ VS ν x v
  | [], _, _, _, _, hx => by simp at hx
  | _ :: _, _, 0, _, h, hx => by obtain ⟨y, r, e, h1, _⟩ := h; simp at hx; subst hx; exact ⟨y, by rw [e]; rfl, h1⟩
  | _ :: l, _, k + 1, x, h, hx => by
    obtain ⟨y, r, e, _, h2⟩ := h
    obtain ⟨v, hv, hr⟩ := VSL.get (k := k) h2 (by simpa using hx)
    exact ⟨v, by rw [e]; simpa using hv, hr⟩
theorem VSL.drop : ∀ {l : List (SV (stdA fs ov))} {vs : List LV} (k : Nat), VSL ν l vs → VSL ν (l.drop k) (vs.drop k)
  | _, _, 0, h => by simpa using h
  | [], _, _ + 1, h => by rw [h]; simp [VSL]
  | _ :: _, _, k + 1, h => by obtain ⟨y, r, e, _, h2⟩ := h; rw [e]; simpa using VSL.drop k h2
theorem VSL.tk : ∀ {n : Nat} {l r : List (SV (stdA fs ov))} {vs : List LV}, gtk n l = some r → VSL ν l vs → ∃ rs, Rx.tk n vs = some rs ∧ VSL ν r rs
  | 0, l, r, vs, h, _ => by simp [gtk] at h; subst h; exact ⟨[], by simp [Rx.tk], rfl⟩
  | n + 1, [], r, vs, h, _ => by simp [gtk] at h
  | n + 1, x :: l, r, vs, h, hv => by
    obtain ⟨y, u, e, h1, h2⟩ := hv
    simp only [gtk] at h
    cases hr : gtk n l with
    | none => simp [hr] at h
    | some m =>
      simp [hr] at h; subst h
      obtain ⟨rs, h3, h4⟩ := VSL.tk hr h2
      exact ⟨y :: rs, by rw [e]; simp [Rx.tk, h3], VSL.cons h1 h4⟩
theorem VSL.pt : ∀ {k : Nat} {l ys r : List (SV (stdA fs ov))} {vs us : List LV}, gpt k l ys = some r → VSL ν l vs → VSL ν ys us → ∃ rs, Rx.pt k vs us = some rs ∧ VSL ν r rs
  | 0, l, [], r, vs, us, h, hv, hu => by simp [gpt] at h; subst h; rw [hu]; exact ⟨vs, by cases vs <;> simp [Rx.pt], hv⟩
  | 0, [], _ :: _, r, vs, us, h, hv, hu => by simp [gpt] at h
  | 0, x :: l, y :: ys, r, vs, us, h, hv, hu => by
    simp only [gpt] at h
    cases hr : gpt 0 l ys with
    | none => simp [hr] at h
    | some m =>
      simp [hr] at h; subst h
      obtain ⟨v, vs', rfl, h1, h2⟩ := hv
      obtain ⟨u, us', rfl, h3, h4⟩ := hu
      obtain ⟨rs, h5, h6⟩ := VSL.pt hr h2 h4
      exact ⟨u :: rs, by simp [Rx.pt, h5], VSL.cons h3 h6⟩
  | k + 1, [], ys, r, vs, us, h, hv, hu => by simp [gpt] at h
  | k + 1, x :: l, ys, r, vs, us, h, hv, hu => by
    simp only [gpt] at h
    cases hr : gpt k l ys with
    | none => simp [hr] at h
    | some m =>
      simp [hr] at h; subst h
      obtain ⟨v, vs', rfl, h1, h2⟩ := hv
      obtain ⟨rs, h5, h6⟩ := VSL.pt hr h2 hu
      exact ⟨v :: rs, by simp [Rx.pt, h5], VSL.cons h1 h6⟩
theorem VS.cells {x : SV (stdA fs ov)} {v : LV} (h : VS ν x v) : VSL ν x.cells v.cells := by
  cases x with
  | agg l => obtain ⟨a, rfl, hl⟩ := h; exact hl
  | tup l => obtain ⟨a, rfl, hl⟩ := h; exact VSL.cons ⟨a, rfl, hl⟩ VSL.nil
  | fn f a c => obtain ⟨a', c', rfl, h1, h2⟩ := h; exact VSL.cons ⟨a', c', rfl, h1, h2⟩ VSL.nil
  | p id off => obtain ⟨r, h1, rfl⟩ := h; exact VSL.cons ⟨r, h1, rfl⟩ VSL.nil
  | yld id => obtain ⟨r, h1, rfl⟩ := h; exact VSL.cons ⟨r, h1, rfl⟩ VSL.nil
  | pe id z i j => obtain ⟨r, o, h1, h2, rfl⟩ := h; exact VSL.cons ⟨r, o, h1, h2, rfl⟩ VSL.nil
  | sl id off len cap => obtain ⟨r, h1, rfl⟩ := h; exact VSL.cons ⟨r, h1, rfl⟩ VSL.nil
  | ls own id n =>
    have h' := h
    obtain ⟨h0, ⟨rfl, _⟩ | ⟨r, o, _, ⟨_, rfl⟩ | ⟨_, c, _, rfl⟩⟩⟩ := h'
    · exact VSL.cons h VSL.nil
    · exact VSL.cons h VSL.nil
    · exact VSL.cons h VSL.nil
  | _ => subst h; exact VSL.cons rfl VSL.nil
end Go.Rx

set_option linter.unusedSimpArgs false
set_option linter.unusedVariables false
set_option linter.unusedSectionVars false
namespace Go.Rx
open Go
variable {fs : Fs} {ov : Bool} {ν : Nm} {P : Program} {T : Al (SV (stdA fs ov))} {L : Tr LV}

theorem opt_ok {x : Option (SV (stdA fs ov))} {why : String} {K : SV (stdA fs ov) → Prop} (h : opt x why K) : ∃ v, x = some v ∧ K v := by
  cases x with
  | none => exact h.elim
  | some v => exact ⟨v, rfl, h⟩

/-! ### Constants, operands -/
theorem sC_ok : ∀ {v : Value} {x : SV (stdA fs ov)}, sC v = some x → ∃ lv, ofC v = some lv ∧ VS ν x lv
  | .bool b, x, h => by simp [sC] at h; subst h; exact ⟨_, rfl, rfl⟩
  | .int k n, x, h => by simp [sC] at h; subst h; exact ⟨.i k n, by simp [ofC, nI_eq], rfl⟩
  | .string s, x, h => by simp [sC] at h; subst h; exact ⟨_, rfl, rfl⟩
  | .pointer none, x, h => by simp [sC] at h; subst h; exact ⟨_, rfl, rfl⟩
  | .slice none 0 0, x, h => by simp [sC] at h; subst h; exact ⟨_, rfl, rfl⟩
  | .nilFunc, x, h => by simp [sC] at h; subst h; exact ⟨_, rfl, rfl⟩
  | .nilIface, x, h => by simp [sC] at h; subst h; exact ⟨_, rfl, rfl⟩
  | .pointer (some _), x, h => by simp [sC] at h
  | .slice (some _) _ _, x, h => by simp [sC] at h
  | .slice none (_ + 1) _, x, h => by simp [sC] at h
  | .slice none 0 (_ + 1), x, h => by simp [sC] at h
  | .map _, x, h => by simp [sC] at h
  | .float _ _, x, h => by simp [sC] at h
  | .complex _ _ _, x, h => by simp [sC] at h
  | .chan _, x, h => by simp [sC] at h
  | .func _ _ _, x, h => by simp [sC] at h
  | .iface _ _, x, h => by simp [sC] at h
  | .agg _, x, h => by simp [sC] at h
  | .tuple _, x, h => by simp [sC] at h
theorem sL_ok : ∀ {vs : List Value} {l : List (SV (stdA fs ov))}, sL vs = some l → ∃ ls, ofL vs = some ls ∧ VSL ν l ls
  | [], l, h => by simp [sL] at h; subst h; exact ⟨[], rfl, rfl⟩
  | v :: r, l, h => by
    simp only [sL] at h
    cases hx : sC (A := stdA fs ov) v with
    | none => simp [hx] at h
    | some x =>
      cases hr : sL (A := stdA fs ov) r with
      | none => simp [hx, hr] at h
      | some m =>
        simp [hx, hr] at h; subst h
        obtain ⟨lx, h1, h2⟩ := sC_ok (ν := ν) hx
        obtain ⟨ls, h3, h4⟩ := sL_ok hr
        exact ⟨lx :: ls, by simp [ofL, h1, h3], VSL.cons h2 h4⟩
theorem sV_ok {v : Value} {x : SV (stdA fs ov)} (h : sV v = some x) : ∃ lv, ofV v = some lv ∧ VS ν x lv := by
  cases v with
  | agg a =>
    simp only [sV] at h
    cases hl : sL (A := stdA fs ov) a.toList with
    | none => simp [hl] at h
    | some l =>
      simp [hl] at h; subst h
      obtain ⟨ls, h1, h2⟩ := sL_ok (ν := ν) hl
      exact ⟨.agg ls, by simp [ofV, h1], ls, rfl, h2⟩
  | tuple a =>
    simp only [sV] at h
    cases hl : sL (A := stdA fs ov) a.toList with
    | none => simp [hl] at h
    | some l =>
      simp [hl] at h; subst h
      obtain ⟨ls, h1, h2⟩ := sL_ok (ν := ν) hl
      exact ⟨.tup ls, by simp [ofV, h1], ls, rfl, h2⟩
  | _ => simp only [sV] at h; exact sC_ok h
theorem sO_ok (hF : FS ν T L) {x : Operand} {v : SV (stdA fs ov)} (h : sO T x = some v) : ∃ lv, evO L x = some lv ∧ VS ν v lv := by
  cases x with
  | tmp t => exact hF.at_ t v h
  | const v => exact sV_ok h
  | global g => cases h
  | func f => simp [sO] at h; subst h; exact ⟨_, rfl, [], [], rfl, rfl, rfl⟩
theorem sOs_ok (hF : FS ν T L) : ∀ {l : List Operand} {r : List (SV (stdA fs ov))}, sOs T l = some r → ∃ rs, evOs L l = some rs ∧ VSL ν r rs
  | [], r, h => by simp [sOs] at h; subst h; exact ⟨[], rfl, rfl⟩
  | x :: l, r, h => by
    simp only [sOs] at h
    cases hx : sO T x with
    | none => simp [hx] at h
    | some v =>
      cases hr : sOs T l with
      | none => simp [hx, hr] at h
      | some m =>
        simp [hx, hr] at h; subst h
        obtain ⟨lx, h1, h2⟩ := sO_ok hF hx
        obtain ⟨ls, h3, h4⟩ := sOs_ok hF hr
        exact ⟨lx :: ls, by simp [evOs, h1, h3], VSL.cons h2 h4⟩
def PS (ν : Nm) : List (Nat × SV (stdA fs ov)) → List (Nat × LV) → Prop
  | [], vs => vs = []
  | (i, x) :: l, vs => ∃ y r, vs = (i, y) :: r ∧ VS ν x y ∧ PS ν l r
theorem sPartsO_ok (hF : FS ν T L) : ∀ {l : List (Nat × Operand)} {r : List (Nat × SV (stdA fs ov))}, sPartsO T l = some r → ∃ rs, parts L l = some rs ∧ PS ν r rs
  | [], r, h => by simp [sPartsO] at h; subst h; exact ⟨[], rfl, rfl⟩
  | (i, x) :: l, r, h => by
    simp only [sPartsO] at h
    cases hx : sO T x with
    | none => simp [hx] at h
    | some v =>
      cases hr : sPartsO T l with
      | none => simp [hx, hr] at h
      | some m =>
        simp [hx, hr] at h; subst h
        obtain ⟨lx, h1, h2⟩ := sO_ok hF hx
        obtain ⟨ls, h3, h4⟩ := sPartsO_ok hF hr
        exact ⟨(i, lx) :: ls, by simp [parts, h1, h3], lx, ls, rfl, h2, h4⟩
theorem sZero_ok {t : TypeId} {z : SV (stdA fs ov)} (h : sZero P t = some z) : ∃ lz, zeroOf P t = some lz ∧ VS ν z lz := by
  unfold sZero at h
  unfold zeroOf
  cases hi : P.info? t with
  | none => simp [hi] at h
  | some i =>
    cases hz : i.zero with
    | none => simp [hi, hz] at h
    | some v => simp [hi, hz] at h ⊢; exact sV_ok h
theorem sPrt_ok {t : TypeId} {cs : List (SV (stdA fs ov))} {ls : List LV} {off : Nat} {v : SV (stdA fs ov)} (h : sPrt P t cs off = some v) (hv : VSL ν cs ls) : ∃ lv, prt P t ls off = some lv ∧ VS ν v lv := by
  unfold sPrt at h
  unfold prt
  cases ha : isAg P t with
  | none => simp [ha] at h
  | some b =>
    cases b with
    | false =>
      simp [ha, at_eq] at h ⊢
      exact hv.get h
    | true =>
      cases hs : szOf P t with
      | none => simp [ha, hs] at h
      | some n =>
        cases hk : gtk n (cs.drop off) with
        | none => simp [ha, hs, hk] at h
        | some r =>
          simp [ha, hs, hk] at h; subst h
          obtain ⟨rs, h1, h2⟩ := VSL.tk hk (hv.drop off)
          simp only [dp_eq, h1]
          exact ⟨_, rfl, rs, rfl, h2⟩
theorem sFill_ok {place : Nat → Option (Nat × Nat)} : ∀ {l : List (Nat × SV (stdA fs ov))} {ls : List (Nat × LV)} {cs r : List (SV (stdA fs ov))} {lcs : List LV}, sFill place cs l = some r → PS ν l ls → VSL ν cs lcs → ∃ lr, fill place lcs ls = some lr ∧ VSL ν r lr
  | [], ls, cs, r, lcs, h, hp, hc => by simp [sFill] at h; subst h; rw [hp]; exact ⟨lcs, by simp [fill], hc⟩
  | (i, v) :: l, ls, cs, r, lcs, h, hp, hc => by
    obtain ⟨y, r', rfl, hv, hp'⟩ := hp
    simp only [sFill] at h
    cases hpl : place i with
    | none => simp [hpl] at h
    | some q =>
      obtain ⟨off, n⟩ := q
      simp only [hpl] at h
      have hcl := hv.cells
      cases hb : Nat.beq v.cells.length n
      · simp [hb] at h
      · simp only [hb, cond_true] at h
        cases hg : gpt off cs v.cells with
        | none => simp [hg] at h
        | some cs' =>
          simp only [hg] at h
          obtain ⟨rs, h1, h2⟩ := VSL.pt hg hc hcl
          obtain ⟨lr, h3, h4⟩ := sFill_ok h hp' h2
          refine ⟨lr, ?_, h4⟩
          simp only [fill, hpl, hcl.length, hb, cond_true, h1, h3]
theorem sBuildAt_ok {t : TypeId} {z : List (SV (stdA fs ov))} {lz : List LV} {l : List (Nat × SV (stdA fs ov))} {ls : List (Nat × LV)} {r : List (SV (stdA fs ov))} (h : sBuildAt P t z l = some r) (hz : VSL ν z lz) (hl : PS ν l ls) : ∃ lr, buildAt P t lz ls = some lr ∧ VSL ν r lr := by
  unfold sBuildAt at h
  unfold buildAt
  cases hu : P.underlying t with
  | none => simp [hu] at h
  | some d =>
    cases d <;> simp only [hu] at h ⊢ <;> try cases h
    case struct fl =>
      cases hp : places P fl.toList with
      | none => simp [hp] at h
      | some pl => simp only [hp] at h ⊢; exact sFill_ok h hl hz
    case array n e =>
      cases hs : szOf P e with
      | none => simp [hs] at h
      | some k => simp only [hs] at h ⊢; exact sFill_ok h hl hz

/-! ### Programs that read no memory -/
theorem ofSem_bind {α β : Type} : ∀ (s : Sem α) (f : α → Sem β), ofSem P (s >>= f) = match ofSem P s with | some a => ofSem P (f a) | none => none
  | .pure a, f => rfl
  | .program k, f => ofSem_bind (k P) f
  | .load .., f | .store .., f | .new .., f | .shape .., f | .freeze .., f | .frozen .., f | .getObj .., f | .setObj .., f | .choose .., f | .sys .., f | .mark .., f | .halt .., f => rfl
theorem ofSem_pure {α : Type} (a : α) : ofSem P (pure a : Sem α) = some a := rfl
theorem ofSem_under {t : TypeId} {d : TypeDesc} (h : P.underlying t = some d) : ofSem P (underlying t) = some d := by
  have : ofSem P (underlying t) = ofSem P (match P.underlying t with | some d => (pure d : Sem TypeDesc) | none => stuck "no such type") := rfl
  rw [this, h]; rfl
theorem ofSem_program : ofSem P program = some P := rfl
theorem ofSem_part {t : TypeId} {cs : Array Value} {off : Nat} {v : Value} (ha : isAg P t = some false) (h : cs[off]? = some v) : ofSem P (part t cs off) = some v := by
  unfold isAg at ha
  cases hu : P.underlying t with
  | none => simp [hu] at ha
  | some d =>
    have h1 : ofSem P (isAgg t) = some false := by
      unfold isAgg
      rw [ofSem_bind, ofSem_under hu]
      cases d <;> simp [hu] at ha <;> rfl
    unfold part
    rw [ofSem_bind, h1]
    simp only [Bool.false_eq_true, if_false, h]
    rfl
theorem equalIn_struct (d : Nat) (t : TypeId) (xs ys : Array Value) {fl : Array Field} (ht : P.underlying t = some (.struct fl)) (hp : P.stoodInHeld t = false) :
    ofSem P (Op.equalIn (d + 1) t (.agg xs) (.agg ys)) = ofSem P (Op.eqFields d xs ys fl.toList) := by
  simp only [Op.equalIn, ofSem_bind, ofSem_under ht, ofSem_program, hp, Bool.false_eq_true, if_false]
  rw [← Array.forIn_toList]
  generalize fl.toList = l
  clear ht
  induction l with
  | nil => simp [Op.eqFields, ofSem_bind, ofSem_pure]
  | cons f l ih =>
    simp only [List.forIn_cons, Op.eqFields]
    by_cases hn : f.name ≠ "_"
    · simp only [if_pos hn, ofSem_bind]
      generalize ofSem P (part f.type xs f.offset) = r1
      cases r1 with
      | none => rfl
      | some a =>
        simp only
        generalize ofSem P (part f.type ys f.offset) = r2
        cases r2 with
        | none => rfl
        | some b =>
          simp only
          generalize ofSem P (Op.equalIn d f.type a b) = r3
          cases r3 with
          | none => rfl
          | some r =>
            cases r
            · simp [ofSem_pure]
            · simp only [Bool.not_true, Bool.false_eq_true, if_false, ofSem_pure]
              exact ih
    · simp only [if_neg hn, ofSem_bind, ofSem_pure]
      exact ih
theorem eqAt_ok {t : TypeId} {x y : SV (stdA fs ov)} {lx ly : LV} {u : Bool} (h : eqAt P t x y = some u) (hx : VS ν x lx) (hy : VS ν y ly) :
    isAg P t = some false ∧ ∃ a b, toC lx = some a ∧ toC ly = some b ∧ ∀ d, ofSem P (Op.equalIn (d + 1) t a b) = some u := by
  unfold eqAt at h
  split at h
  · rename_i k0 k a k' b hu
    cases hk : decide (k = k')
    · simp [hk] at h
    · simp [hk] at h; subst h
      obtain rfl : k = k' := by simpa using hk
      obtain rfl := hx; obtain rfl := hy
      refine ⟨by simp [isAg, hu], .int k a, .int k b, rfl, rfl, fun d => ?_⟩
      simp only [Op.equalIn, ofSem_bind, ofSem_under hu, if_true]
      show some (a == b) = some (decide (a = b))
      rfl
  · rename_i a b hu
    simp at h; subst h
    obtain rfl := hx; obtain rfl := hy
    refine ⟨by simp [isAg, hu], .bool a, .bool b, rfl, rfl, fun d => ?_⟩
    simp only [Op.equalIn, ofSem_bind, ofSem_under hu]
    rfl
  · cases h
theorem eqFs_ok : ∀ {fl : List Field} {l r : List (SV (stdA fs ov))} {ll lr : List LV} {u : Bool} (o : Nat), eqFs P fl l r = some u → flatFs o fl = true → VSL ν l ll → VSL ν r lr →
    ∃ xs ys, toL ll = some xs ∧ toL lr = some ys ∧ ∀ (X Y : List Value), X.drop o = xs → Y.drop o = ys → ∀ d, ofSem P (Op.eqFields (d + 1) X.toArray Y.toArray fl) = some u
  | [], [], [], ll, lr, u, o, h, _, hl, hr => by
    simp [eqFs] at h; subst h; rw [hl, hr]
    exact ⟨[], [], rfl, rfl, fun X Y _ _ d => rfl⟩
  | f :: fl, x :: l, y :: r, ll, lr, u, o, h, hf, hl, hr => by
    simp only [eqFs] at h
    cases hx : eqAt P f.type x y with
    | none => simp [hx] at h
    | some u0 =>
      simp only [hx] at h
      obtain ⟨lx, ll', rfl, hx1, hl1⟩ := hl
      obtain ⟨ly, lr', rfl, hy1, hr1⟩ := hr
      obtain ⟨ha, a, b, h1, h2, h3⟩ := eqAt_ok hx hx1 hy1
      simp only [flatFs, Bool.and_eq_true, beq_iff] at hf
      obtain ⟨⟨ho, hn⟩, hf⟩ := hf
      have key : ∃ w, eqFs P fl l r = some w ∧ u = (u0 && w) := by
        cases fl with
        | nil =>
          cases l <;> cases r <;> simp at h
          exact ⟨true, rfl, by simp [h]⟩
        | cons g gs =>
          simp only at h
          cases hw : eqFs P (g :: gs) l r with
          | none => simp [hw] at h
          | some w => simp [hw] at h; exact ⟨w, rfl, h.symm⟩
      obtain ⟨w, hw, rfl⟩ := key
      obtain ⟨xs, ys, h4, h5, h6⟩ := eqFs_ok (o + 1) hw hf hl1 hr1
      refine ⟨a :: xs, b :: ys, by simp [toL, h1, h4], by simp [toL, h2, h5], fun X Y hX hY d => ?_⟩
      have gX : X[o]? = some a := by
        have := congrArg (·[0]?) hX; simpa using this
      have gY : Y[o]? = some b := by
        have := congrArg (·[0]?) hY; simpa using this
      have dX : X.drop (o + 1) = xs := by rw [← List.drop_drop, hX]; rfl
      have dY : Y.drop (o + 1) = ys := by rw [← List.drop_drop, hY]; rfl
      have hn' : f.name ≠ "_" := by simpa using hn
      simp only [Op.eqFields]
      rw [if_pos hn']
      simp only [ofSem_bind, ofSem_part ha (show X.toArray[f.offset]? = some a by rw [ho]; simpa using gX), ofSem_part ha (show Y.toArray[f.offset]? = some b by rw [ho]; simpa using gY), h3 d]
      cases u0
      · rfl
      · simpa using h6 X Y dX dY d
  | [], _ :: _, _, _, _, _, _, h, _, _, _ => by simp [eqFs] at h
  | [], [], _ :: _, _, _, _, _, h, _, _, _ => by simp [eqFs] at h
  | _ :: _, [], _, _, _, _, _, h, _, _, _ => by simp [eqFs] at h
  | _ :: _, _ :: _, [], _, _, _, _, h, _, _, _ => by simp [eqFs] at h
theorem eqAgg_ok {t : TypeId} {l r : List (SV (stdA fs ov))} {ll lr : List LV} {u : Bool} (h : eqAgg P t l r = some u) (hl : VSL ν l ll) (hr : VSL ν r lr) (op : BinOp) (xo yo : Operand) :
    ∃ xs ys, toL ll = some xs ∧ toL lr = some ys ∧ ofSem P (eqGuard op t xo yo (.agg xs.toArray) (.agg ys.toArray)) = some () ∧ ofSem P (Op.equal t (.agg xs.toArray) (.agg ys.toArray)) = some u := by
  unfold eqAgg at h
  cases hu : P.underlying t with
  | none => simp [hu] at h
  | some d =>
    cases d <;> simp only [hu] at h <;> try cases h
    case struct fl =>
      cases hc : (flatFs 0 fl.toList && !(P.stoodInHeld t) && !(P.eqGuardType P.depth t))
      · simp [hc] at h
      · simp only [hc, cond_true] at h
        simp only [Bool.and_eq_true, Bool.not_eq_true'] at hc
        obtain ⟨⟨h1, h2⟩, h3⟩ := hc
        obtain ⟨xs, ys, h4, h5, h6⟩ := eqFs_ok (P := P) 0 h h1 hl hr
        refine ⟨xs, ys, h4, h5, ?_, ?_⟩
        · cases op <;> simp [eqGuard, ofSem_bind, ofSem_program, ofSem_pure, h3]
        · show ofSem P (Op.equalIn (9999 + 1) t (.agg xs.toArray) (.agg ys.toArray)) = some u
          rw [equalIn_struct 9999 t _ _ hu h2]
          exact h6 xs ys rfl rfl 9998
end Go.Rx

set_option linter.unusedSimpArgs false
set_option linter.unusedVariables false
set_option linter.unusedSectionVars false
namespace Go.Rx
open Go
variable {fs : Fs} {ov : Bool} {ν : Nm} {P : Program} {T : Al (SV (stdA fs ov))} {L : Tr LV}

theorem evGen_int {op : BinOp} {t : TypeId} {xo yo : Operand} {k k' : IntKind} {a b : Int} (h1 : op ≠ .eql) (h2 : op ≠ .neq) :
    evGen P op t xo yo (.i k a) (.i k' b) = match ofSem P (binOp op t (.int k a) (.int k' b)) with | some v => ofV v | none => none := by
  have hg : ofSem P (eqGuard op t xo yo (.int k a) (.int k' b)) = some () := by cases op <;> simp [eqGuard, ofSem_pure] at h1 h2 ⊢
  show (match ofSem P (do eqGuard op t xo yo (.int k a) (.int k' b); binOp op t (.int k a) (.int k' b)) with | some v => ofV v | none => none) = _
  rw [ofSem_bind, hg]
theorem sInt_ok {op : BinOp} {t : TypeId} {xo yo : Operand} {k : IntKind} {a b : Int} {K : SV (stdA fs ov) → Prop} (h : sInt (A := stdA fs ov) op k a b K) :
    ∃ v lv, evInts P op t xo yo k k a b = some lv ∧ VS ν v lv ∧ K v := by
  have e : evInts P op t xo yo k k a b = match evInt op k a b with | some v => some v | none => evGen P op t xo yo (.i k a) (.i k b) := by unfold evInts; rw [show decide (k = k) = true from by simp]; rfl
  rw [e]
  have bits : ∀ op' : BinOp, op' ≠ .eql → op' ≠ .neq → ∀ n, binOp op' t (.int k a) (.int k b) = (pure (.int k n) : Sem Value) → (match ofSem P (binOp op' t (.int k a) (.int k b)) with | some v => ofV v | none => none) = some (.i k n) := fun op' _ _ n hn => by
    rw [hn]; simp [ofSem_pure, ofV, ofC, nI_eq]
  cases op <;> simp only [sInt] at h
  case add =>
    simp only [evInt, mkInt_eq]
    cases ov
    · exact ⟨.i k _, _, rfl, rfl, h⟩
    · obtain ⟨h1, h2⟩ := h; rw [h1.wrap]; exact ⟨.i k _, _, rfl, rfl, h2⟩
  case sub =>
    simp only [evInt, mkInt_eq]
    cases ov
    · exact ⟨.i k _, _, rfl, rfl, h⟩
    · obtain ⟨h1, h2⟩ := h; rw [h1.wrap]; exact ⟨.i k _, _, rfl, rfl, h2⟩
  case mul =>
    simp only [evInt, mkInt_eq]
    cases ov
    · exact ⟨.i k _, _, rfl, rfl, h⟩
    · obtain ⟨h1, h2⟩ := h; rw [h1.wrap]; exact ⟨.i k _, _, rfl, rfl, h2⟩
  case quo =>
    simp only [evInt]
    rw [evGen_int (by simp) (by simp)]
    have hb : b ≠ 0 := by cases ov <;> exact h.1
    rw [bits .quo (by simp) (by simp) (k.wrap (a.tdiv b)) (by simp [binOp, Op.intDiv, hb])]
    cases ov
    · exact ⟨.i k _, _, rfl, rfl, h.2⟩
    · obtain ⟨_, h1, h2⟩ := h; rw [h1.wrap]; exact ⟨.i k _, _, rfl, rfl, h2⟩
  case rem =>
    simp only [evInt]
    rw [evGen_int (by simp) (by simp)]
    obtain ⟨hb, h2⟩ := h
    rw [bits .rem (by simp) (by simp) (a.tmod b) (by simp [binOp, Op.intDiv, hb])]
    exact ⟨.i k _, _, rfl, rfl, h2⟩
  case and =>
    simp only [evInt]
    rw [evGen_int (by simp) (by simp), bits .and (by simp) (by simp) (bitsI .and k a b) (by simp [binOp, Op.intBits, bitsI])]
    exact ⟨.i k _, _, rfl, rfl, h⟩
  case or =>
    simp only [evInt]
    rw [evGen_int (by simp) (by simp), bits .or (by simp) (by simp) (bitsI .or k a b) (by simp [binOp, Op.intBits, bitsI])]
    exact ⟨.i k _, _, rfl, rfl, h⟩
  case xor =>
    simp only [evInt]
    rw [evGen_int (by simp) (by simp), bits .xor (by simp) (by simp) (bitsI .xor k a b) (by simp [binOp, Op.intBits, bitsI])]
    exact ⟨.i k _, _, rfl, rfl, h⟩
  case andNot =>
    simp only [evInt]
    rw [evGen_int (by simp) (by simp), bits .andNot (by simp) (by simp) (bitsI .andNot k a b) (by simp [binOp, Op.intBits, bitsI])]
    exact ⟨.i k _, _, rfl, rfl, h⟩
  case neq =>
    refine ⟨.b _, .b (a != b), by simp only [evInt, tf_eq], ?_, h⟩
    show LV.b (a != b) = LV.b (decide (a ≠ b))
    by_cases e : a = b <;> simp [e]
  all_goals first
    | exact h.elim
    | exact ⟨.b _, _, by simp only [evInt, tf_eq]; rfl, rfl, h⟩
theorem sEq_ok {neg : Bool} {x : Option Bool} {K : SV (stdA fs ov) → Prop} (h : sEq (A := stdA fs ov) neg x K) : ∃ u, x = some u ∧ K (.b (if neg then !u else u)) := by
  cases x with
  | none => exact h.elim
  | some u => refine ⟨u, rfl, ?_⟩; cases neg <;> exact h
theorem evGen_scal {neg : Bool} {t : TypeId} {xo yo : Operand} {lx ly : LV} {a b : Value} {u : Bool} (h1 : toV lx = some a) (h2 : toV ly = some b) (hg : ∀ op, ofSem P (eqGuard op t xo yo a b) = some ())
    (hb : ∀ op, op = .eql ∨ op = .neq → binOp op t a b = (do let r ← Op.equal t a b; pure (.bool (if op = .neq then !r else r)) : Sem Value)) (he : ofSem P (Op.equal t a b) = some u) (op : BinOp) (ho : op = .eql ∧ neg = false ∨ op = .neq ∧ neg = true) :
    evGen P op t xo yo lx ly = some (.b (if neg then !u else u)) := by
  unfold evGen
  simp only [h1, h2]
  rw [ofSem_bind, hg]
  simp only
  rw [hb op (by rcases ho with ⟨h, _⟩ | ⟨h, _⟩ <;> simp [h]), ofSem_bind, he]
  rcases ho with ⟨rfl, rfl⟩ | ⟨rfl, rfl⟩ <;> simp [ofSem_pure, ofV, ofC]
theorem sBin_ok {op : BinOp} {t : TypeId} {xo yo : Operand} {x y : SV (stdA fs ov)} {lx ly : LV} {K : SV (stdA fs ov) → Prop} (h : sBin P op t x y K) (hx : VS ν x lx) (hy : VS ν y ly) :
    ∃ v lv, evBin P op t xo yo lx ly = some lv ∧ VS ν v lv ∧ K v := by
  unfold sBin at h
  split at h
  · rename_i k a k' b
    obtain ⟨h0, h⟩ := h
    have h0 : (0 : Int) ≤ b := h0
    obtain rfl := hx; obtain rfl := hy
    have e : evBin P .shl t xo yo (.i k a) (.i k' b) = evGen P .shl t xo yo (.i k a) (.i k' b) := by
      simp only [evBin, evInts, evInt]; cases decide (k = k') <;> rfl
    have : ¬ @LT.lt Int _ b 0 := Int.not_lt.2 h0
    rw [e, evGen_int (by simp) (by simp)]
    refine ⟨.i k _, .i k (shI .shl k a b), ?_, rfl, h⟩
    simp [binOp, Op.shift, this, ofSem_pure, ofV, ofC, nI_eq, shI]
  · rename_i k a k' b
    obtain ⟨h0, h⟩ := h
    have h0 : (0 : Int) ≤ b := h0
    obtain rfl := hx; obtain rfl := hy
    have e : evBin P .shr t xo yo (.i k a) (.i k' b) = evGen P .shr t xo yo (.i k a) (.i k' b) := by
      simp only [evBin, evInts, evInt]; cases decide (k = k') <;> rfl
    have : ¬ @LT.lt Int _ b 0 := Int.not_lt.2 h0
    rw [e, evGen_int (by simp) (by simp)]
    refine ⟨.i k _, .i k (shI .shr k a b), ?_, rfl, h⟩
    simp [binOp, Op.shift, this, ofSem_pure, ofV, ofC, nI_eq, shI]
  · rename_i op k a k' b _ _
    cases hk : decide (k = k')
    · simp only [hk, cond_false] at h <;> exact h.elim
    · simp only [hk, cond_true] at h
      obtain rfl : k = k' := by simpa using hk
      obtain rfl := hx; obtain rfl := hy
      exact sInt_ok h
  · rename_i x y
    obtain ⟨u, hu, hK⟩ := sEq_ok h
    obtain ⟨_, a, b, h1, h2, h3⟩ := eqAt_ok hu hx hy
    obtain rfl := hx; obtain rfl := hy
    cases h1; cases h2
    refine ⟨.b _, .b _, ?_, rfl, hK⟩
    exact evGen_scal (neg := false) (lx := .b x) (ly := .b y) rfl rfl (fun op => by cases op <;> simp [eqGuard, ofSem_pure]) (fun op ho => by rcases ho with rfl | rfl <;> simp [binOp]) (h3 9999) .eql (.inl ⟨rfl, rfl⟩)
  · rename_i x y
    obtain ⟨u, hu, hK⟩ := sEq_ok h
    obtain ⟨_, a, b, h1, h2, h3⟩ := eqAt_ok hu hx hy
    obtain rfl := hx; obtain rfl := hy
    cases h1; cases h2
    refine ⟨.b _, .b _, ?_, rfl, hK⟩
    exact evGen_scal (neg := true) (lx := .b x) (ly := .b y) rfl rfl (fun op => by cases op <;> simp [eqGuard, ofSem_pure]) (fun op ho => by rcases ho with rfl | rfl <;> simp [binOp]) (h3 9999) .neq (.inr ⟨rfl, rfl⟩)
  · rename_i l r
    obtain ⟨u, hu, hK⟩ := sEq_ok h
    obtain ⟨ll, rfl, hl⟩ := hx
    obtain ⟨lr, rfl, hr⟩ := hy
    obtain ⟨xs, ys, h1, h2, _, h4⟩ := eqAgg_ok hu hl hr .eql xo yo
    refine ⟨.b _, .b _, ?_, rfl, hK⟩
    exact evGen_scal (neg := false) (by simp [toV, h1]) (by simp [toV, h2]) (fun op => (eqAgg_ok hu hl hr op xo yo).elim fun xs' ⟨ys', e1, e2, e3, _⟩ => by rw [h1] at e1; rw [h2] at e2; cases e1; cases e2; exact e3) (fun op ho => by rcases ho with rfl | rfl <;> simp [binOp]) h4 .eql (.inl ⟨rfl, rfl⟩)
  · rename_i l r
    obtain ⟨u, hu, hK⟩ := sEq_ok h
    obtain ⟨ll, rfl, hl⟩ := hx
    obtain ⟨lr, rfl, hr⟩ := hy
    obtain ⟨xs, ys, h1, h2, _, h4⟩ := eqAgg_ok hu hl hr .neq xo yo
    refine ⟨.b _, .b _, ?_, rfl, hK⟩
    exact evGen_scal (neg := true) (by simp [toV, h1]) (by simp [toV, h2]) (fun op => (eqAgg_ok hu hl hr op xo yo).elim fun xs' ⟨ys', e1, e2, e3, _⟩ => by rw [h1] at e1; rw [h2] at e2; cases e1; cases e2; exact e3) (fun op ho => by rcases ho with rfl | rfl <;> simp [binOp]) h4 .neq (.inr ⟨rfl, rfl⟩)
  · exact h.elim
theorem sUn_ok {op : UnOp} {x : SV (stdA fs ov)} {lx : LV} {K : SV (stdA fs ov) → Prop} (h : sUn op x K) (hx : VS ν x lx) :
    ∃ v lv, (match toV lx with | some a => (match ofSem P (Op.unary op a) with | some v => ofV v | none => none) | none => none) = some lv ∧ VS ν v lv ∧ K v := by
  unfold sUn at h
  split at h
  · obtain rfl := hx
    exact ⟨.b _, .b _, rfl, rfl, h⟩
  · rename_i k n
    obtain rfl := hx
    have e : (match toV (.i k n) with | some a => (match ofSem P (Op.unary .neg a) with | some v => ofV v | none => none) | none => none) = some (.i k (k.wrap (0 - n))) := by
      show ofV (.int k (k.wrap (0 - n))) = _
      simp [ofV, ofC, nI_eq]
    rw [e]
    cases ov
    · exact ⟨.i k _, _, rfl, rfl, h⟩
    · obtain ⟨h1, h2⟩ := h; rw [h1.wrap]; exact ⟨.i k _, _, rfl, rfl, h2⟩
  · rename_i k n
    obtain rfl := hx
    have e : (match toV (.i k n) with | some a => (match ofSem P (Op.unary .xor a) with | some v => ofV v | none => none) | none => none) = some (.i k (notI k n)) := by
      show ofV (.int k (notI k n)) = _
      simp [ofV, ofC, nI_eq]
    rw [e]
    exact ⟨.i k _, _, rfl, rfl, h⟩
  · exact h.elim
theorem sConv_ok {s d : TypeId} {x : SV (stdA fs ov)} {lx : LV} {K : SV (stdA fs ov) → Prop} (h : sConv P s d x K) (hx : VS ν x lx) :
    ∃ v lv, (match toV lx with | some a => (match ofSem P (convert s d a) with | some v => ofV v | none => none) | none => none) = some lv ∧ VS ν v lv ∧ K v := by
  unfold sConv at h
  split at h
  · rename_i k0 k k1 n hs hd
    obtain rfl := hx
    have e : ofSem P (convert s d (.int k1 n)) = some (.int k (k.wrap n)) := by
      unfold convert
      rw [ofSem_bind, ofSem_under hs]
      simp only
      rw [ofSem_bind, ofSem_under hd]
      rfl
    have e' : (match toV (.i k1 n) with | some a => (match ofSem P (convert s d a) with | some v => ofV v | none => none) | none => none) = some (.i k (k.wrap n)) := by
      show (match ofSem P (convert s d (.int k1 n)) with | some v => ofV v | none => none) = _
      rw [e]; simp [ofV, ofC, nI_eq]
    rw [e']
    cases ov
    · exact ⟨.i k _, _, rfl, rfl, h⟩
    · obtain ⟨h1, h2⟩ := h; rw [h1.wrap]; exact ⟨.i k _, _, rfl, rfl, h2⟩
  · exact h.elim

/-! ### Indices, addresses, fields -/
theorem fan_ok {n : Int} {K : Nat → Prop} : ∀ {m j : Nat}, fan (A := stdA fs ov) n K m j → (j : Int) ≤ n → n < j + m → K n.toNat
  | 0, _, h, _, _ => h.elim
  | 1, j, h, h1, h2 => by
    have : n.toNat = j := by omega
    rw [this]; exact h
  | m + 2, j, h, h1, h2 => by
    have h' : cond (decide (n = (j : Int))) (K j) (fan (A := stdA fs ov) n K (m + 1) (j + 1)) := h
    by_cases e : n = (j : Int)
    · rw [decide_eq_true e] at h'
      have : n.toNat = j := by omega
      rw [this]; exact h'
    · rw [decide_eq_false e] at h'
      exact fan_ok h' (by omega) (by omega)
theorem idx_int {k : IntKind} {n : Int} {len : Nat} (h0 : 0 ≤ n) (h1 : n < len) : idx (.i k n) len = some n.toNat := by
  obtain ⟨m, rfl⟩ := Int.eq_ofNat_of_zero_le h0
  have : Nat.blt m len = true := by simp; omega
  simp [idx, this]
theorem sIdx_ok {v : SV (stdA fs ov)} {lv : LV} {len : Nat} {K : Nat → Prop} (h : sIdx v len K) (hv : VS ν v lv) : ∃ n, idx lv len = some n ∧ K n := by
  unfold sIdx at h
  split at h
  · rename_i k n
    obtain rfl := hv
    obtain ⟨h0, h1, h2⟩ := h
    exact ⟨_, idx_int h0 h1, fan_ok h2 h0 (by have : @LT.lt Int _ n (len : Int) := h1; simpa using this)⟩
  · exact h.elim
theorem addr_some {id off n z : Nat} : addr id off (some n) (some z) = some (.p id (off + n * z)) := by simp [addr, nN_eq]
theorem sIAddr_ok {t : TypeId} {x ix : SV (stdA fs ov)} {xo io : Operand} {lx li : LV} {K : SV (stdA fs ov) → Prop} (h : sIAddr P t x ix K) (hx : VS ν x lx) (hi : VS ν ix li) (ex : evO L xo = some lx) (ei : evO L io = some li) :
    ∃ v lv, evIAddr P L t xo io = some lv ∧ VS ν v lv ∧ K v := by
  unfold sIAddr at h
  unfold evIAddr
  simp only [ex, ei]
  split at h
  · rename_i ix e id off len c hu
    obtain ⟨r, hr, rfl⟩ := hx
    cases hs : szOf P e with
    | none => simp only [hs] at h <;> exact h.elim
    | some z =>
      simp only [hs] at h
      obtain ⟨n, h1, h2⟩ := sIdx_ok h hi
      simp only [hu, h1, hs, addr_some]
      exact ⟨.p id (off + n * z), .p r (off + n * z), rfl, ⟨r, hr, rfl⟩, h2⟩
  · rename_i e own id n k i hu
    cases hs : szOf P e with
    | none => simp only [hs] at h <;> exact h.elim
    | some z =>
      simp only [hs] at h
      obtain ⟨h0, h1, h2⟩ := h
      have h0 : @LE.le Int _ 0 i := h0
      have h1 : @LT.lt Int _ i n := h1
      obtain rfl := hi
      obtain ⟨hn, ⟨rfl, h3⟩ | ⟨r, o, hr, ⟨rfl, rfl⟩ | ⟨_, c, hc, rfl⟩⟩⟩ := hx
      · have h3 : @Eq Int n 0 := h3
        omega
      · simp only [hu, idx_int h0 (show @LT.lt Int _ i ((Int.toNat n : Nat) : Int) by omega), hs, addr_some]
        exact ⟨.pe id z i 0, .p r (0 + Int.toNat i * z), rfl, ⟨r, 0, hr, h0, by simp⟩, h2⟩
      · simp only [hu, idx_int h0 (show @LT.lt Int _ i ((Int.toNat n : Nat) : Int) by omega), hs, addr_some]
        exact ⟨.pe id z i 0, .p r (o + Int.toNat i * z), rfl, ⟨r, o, hr, h0, by simp⟩, h2⟩
  · rename_i ix n e id off hu
    obtain ⟨r, hr, rfl⟩ := hx
    cases hs : szOf P e with
    | none => simp only [hs] at h <;> exact h.elim
    | some z =>
      simp only [hs] at h
      obtain ⟨m, h1, h2⟩ := sIdx_ok h hi
      simp only [hu, h1, hs, addr_some]
      exact ⟨.p id (off + m * z), .p r (off + m * z), rfl, ⟨r, hr, rfl⟩, h2⟩
  · exact h.elim
theorem sFAddr_ok {t : TypeId} {x v : SV (stdA fs ov)} {xo : Operand} {lx : LV} {f : Nat} (h : sFAddr P t x f = some v) (hx : VS ν x lx) (ex : evO L xo = some lx) : ∃ lv, evFAddr P L t xo f = some lv ∧ VS ν v lv := by
  unfold sFAddr at h
  unfold evFAddr
  simp only [ex]
  split at h
  · rename_i id off f' hf
    obtain ⟨r, hr, rfl⟩ := hx
    split at h
    · rename_i z hz
      simp at h; subst h
      simp only [hf, hz, nN_eq]
      exact ⟨_, rfl, r, hr, rfl⟩
    · cases h
  · rename_i id z i j f' hf
    obtain ⟨r, o, hr, h0, rfl⟩ := hx
    split at h
    · rename_i z' hz
      simp at h; subst h
      simp only [hf, hz, nN_eq]
      exact ⟨_, rfl, r, o, hr, h0, by rw [Nat.add_assoc]⟩
    · cases h
  · cases h
theorem sField_ok {t : TypeId} {x v : SV (stdA fs ov)} {xo : Operand} {lx : LV} {f : Nat} (h : sField P t x f = some v) (hx : VS ν x lx) (ex : evO L xo = some lx) : ∃ lv, evField P L t xo f = some lv ∧ VS ν v lv := by
  unfold sField at h
  unfold evField
  simp only [ex]
  split at h
  · rename_i cs
    obtain ⟨l', rfl, hl⟩ := hx
    cases hf : fieldOf P t f with
    | none => simp [hf] at h
    | some f' => simp only [hf] at h ⊢; exact sPrt_ok h hl
  · cases h
theorem sIndexA_ok {t : TypeId} {x ix : SV (stdA fs ov)} {xo io : Operand} {lx li : LV} {K : SV (stdA fs ov) → Prop} (h : sIndexA P t x ix K) (hx : VS ν x lx) (hi : VS ν ix li) (ex : evO L xo = some lx) (ei : evO L io = some li) :
    ∃ v lv, evIndex P L t xo io = some lv ∧ VS ν v lv ∧ K v := by
  unfold sIndexA at h
  unfold evIndex
  split at h
  · rename_i n e cs hu
    obtain ⟨l', rfl, hl⟩ := hx
    cases hs : szOf P e with
    | none => simp only [hs] at h <;> exact h.elim
    | some z =>
      simp only [hs] at h
      obtain ⟨m, h1, h2⟩ := sIdx_ok h hi
      obtain ⟨v, h3, h4⟩ := opt_ok h2
      obtain ⟨lv, h5, h6⟩ := sPrt_ok h3 hl
      simp only [hu, evIdxA, ex, ei, h1, hs]
      exact ⟨v, lv, h5, h6, h4⟩
  · exact h.elim
theorem bnds_none {len cap : Nat} : bnds L len cap none none none = some (0, len, cap) := rfl
theorem sSlice_ok {t : TypeId} {x v : SV (stdA fs ov)} {lo hi mx : Option Operand} {lx : LV} (h : sSlice P t x lo hi mx = some v) (hx : VS ν x lx) : ∃ lv, evSlice P L t lx lo hi mx = some lv ∧ VS ν v lv := by
  unfold sSlice at h
  unfold evSlice
  split at h
  · rename_i n e id off hu
    obtain ⟨r, hr, rfl⟩ := hx
    cases hs : szOf P e with
    | none => simp [hs] at h
    | some z =>
      simp only [hs] at h
      cases hb : Nat.beq n 0
      · simp [hb] at h; subst h
        simp [hu, hs, bnds_none, nN_eq, hb]
        exact ⟨r, hr, rfl⟩
      · simp [hb] at h
  · rename_i e own id n hu
    cases hs : szOf P e with
    | none => simp [hs] at h
    | some z =>
      simp [hs] at h; subst h
      have hx' := hx
      obtain ⟨hn, ⟨rfl, h3⟩ | ⟨r, o, hr, ⟨rfl, rfl⟩ | ⟨_, c, hc, rfl⟩⟩⟩ := hx'
      · exact ⟨.nils, by simp [hu, hs, bnds_none], hx⟩
      · exact ⟨.gs r 0 0 n.toNat, by simp [hu, hs, bnds_none, nN_eq], hx⟩
      · have hle : Nat.ble n.toNat c = true := by simpa using hc
        refine ⟨.sl r o n.toNat c, ?_, hx⟩
        cases hb : Nat.beq c 0
        · simp [hu, hs, bnds_none, nN_eq, hle, hb]
        · have : c = 0 := (beq_iff _ _).1 hb
          subst this
          simp [hu, hs, bnds_none, nN_eq, hle]
  · rename_i e id off len cap hu
    obtain ⟨r, hr, rfl⟩ := hx
    cases hs : szOf P e with
    | none => simp [hs] at h
    | some z =>
      simp only [hs] at h
      cases hb : Nat.ble (len + 1) cap
      · simp [hb] at h
      · simp [hb] at h; subst h
        have hc : Nat.beq cap 0 = false := (beq_false _ _).2 (fun e => by subst e; simp at hb)
        refine ⟨.sl r off (len + 1) cap, ?_, r, hr, rfl⟩
        simp [hu, hs, bnds_none, nN_eq, hb, hc]
  · cases h
theorem sPure_ok (hF : FS ν T L) {op : Op} {K : SV (stdA fs ov) → Prop} (h : sPure P T op K) : ∃ v lv, evPure P L op = some lv ∧ VS ν v lv ∧ K v := by
  cases op <;> simp only [sPure] at h <;> try exact h.elim
  case move x =>
    obtain ⟨v, h1, h2⟩ := opt_ok h
    obtain ⟨lv, h3, h4⟩ := sO_ok hF h1
    exact ⟨v, lv, h3, h4, h2⟩
  case assign x =>
    obtain ⟨v, h1, h2⟩ := opt_ok h
    obtain ⟨lv, h3, h4⟩ := sO_ok hF h1
    exact ⟨v, lv, h3, h4, h2⟩
  case pick c x y =>
    simp only [sPick] at h
    split at h
    · rename_i b hc
      obtain ⟨lc, h1, h2⟩ := sO_ok hF hc
      obtain rfl := h2
      have h' : cond b (opt (sO T x) "pick" K) (opt (sO T y) "pick" K) := h
      cases b
      · obtain ⟨v, h3, h4⟩ := opt_ok h'
        obtain ⟨lv, h5, h6⟩ := sO_ok hF h3
        exact ⟨v, lv, by simp [evPure, evPick, h1, h5], h6, h4⟩
      · obtain ⟨v, h3, h4⟩ := opt_ok h'
        obtain ⟨lv, h5, h6⟩ := sO_ok hF h3
        exact ⟨v, lv, by simp [evPure, evPick, h1, h5], h6, h4⟩
    · exact h.elim
  case build t ps =>
    obtain ⟨v, h1, h2⟩ := opt_ok h
    split at h1
    · rename_i z l hz hl
      obtain ⟨lz, h3, h4⟩ := sZero_ok (ν := ν) hz
      obtain ⟨ll, h5, h6⟩ := sPartsO_ok hF hl
      cases hb : sBuildAt P t z.cells l with
      | none => simp [hb] at h1
      | some cs =>
        simp [hb] at h1; subst h1
        obtain ⟨lr, h7, h8⟩ := sBuildAt_ok hb h4.cells h6
        exact ⟨.agg cs, .agg lr, by simp [evPure, evBuild, h3, h5, h7], ⟨lr, rfl, h8⟩, h2⟩
    · cases h1
  case nilCheck x =>
    obtain ⟨v, h1, h2⟩ := opt_ok h
    cases hx : sO T x with
    | none => simp [hx] at h1
    | some u =>
      simp only [hx] at h1
      obtain ⟨lu, h3, h4⟩ := sO_ok hF hx
      unfold sNil at h1
      split at h1
      · simp at h1; subst h1
        obtain ⟨r, hr, rfl⟩ := h4
        exact ⟨.p _ _, .p r _, by simp [evPure, evNil, h3], ⟨r, hr, rfl⟩, h2⟩
      · simp at h1; subst h1
        obtain ⟨r, o, hr, h0, rfl⟩ := h4
        exact ⟨.pe _ _ _ _, .p r _, by simp [evPure, evNil, h3], ⟨r, o, hr, h0, rfl⟩, h2⟩
      · simp at h1; subst h1
        obtain ⟨a, c, rfl, ha, hc⟩ := h4
        exact ⟨.fn _ _ _, .fn _ a c, by simp [evPure, evNil, h3], ⟨a, c, rfl, ha, hc⟩, h2⟩
      · simp at h1; subst h1
        obtain ⟨r, hr, rfl⟩ := h4
        exact ⟨.yld _, .yld r, by simp [evPure, evNil, h3], ⟨r, hr, rfl⟩, h2⟩
      · cases h1
  case binOp op t x y yt =>
    unfold o2 at h
    split at h
    · rename_i a b ha hb
      obtain ⟨la, h1, h2⟩ := sO_ok hF ha
      obtain ⟨lb, h3, h4⟩ := sO_ok hF hb
      obtain ⟨v, lv, h5, h6, h7⟩ := sBin_ok (xo := x) (yo := y) h h2 h4
      exact ⟨v, lv, by simp [evPure, evBinO, h1, h3, h5], h6, h7⟩
    · exact h.elim
  case unOp op t x =>
    split at h
    · rename_i a ha
      obtain ⟨la, h1, h2⟩ := sO_ok hF ha
      obtain ⟨v, lv, h3, h4, h5⟩ := sUn_ok (P := P) h h2
      exact ⟨v, lv, by simp only [evPure, evUn, h1]; exact h3, h4, h5⟩
    · exact h.elim
  case convert s d x =>
    split at h
    · rename_i a ha
      obtain ⟨la, h1, h2⟩ := sO_ok hF ha
      obtain ⟨v, lv, h3, h4, h5⟩ := sConv_ok (P := P) h h2
      exact ⟨v, lv, by simp only [evPure, evConv, h1]; exact h3, h4, h5⟩
    · exact h.elim
  case makeFunc f x c =>
    cases f <;> simp only at h <;> try exact h.elim
    split at h
    · rename_i f a b ha hb
      obtain ⟨la, h1, h2⟩ := sOs_ok hF ha
      obtain ⟨lb, h3, h4⟩ := sOs_ok hF hb
      exact ⟨.fn _ _ _, .fn _ la lb, by simp [evPure, evMkFn, h1, h3], ⟨la, lb, rfl, h2, h4⟩, h⟩
    · exact h.elim
  case slice t x lo hi mx =>
    obtain ⟨v, h1, h2⟩ := opt_ok h
    cases hx : sO T x with
    | none => simp [hx] at h1
    | some u =>
      simp only [hx] at h1
      obtain ⟨lu, h3, h4⟩ := sO_ok hF hx
      obtain ⟨lv, h5, h6⟩ := sSlice_ok (L := L) h1 h4
      exact ⟨v, lv, by simp [evPure, evSliceO, h3, h5], h6, h2⟩
  case fieldAddr t x f =>
    obtain ⟨v, h1, h2⟩ := opt_ok h
    cases hx : sO T x with
    | none => simp [hx] at h1
    | some u =>
      simp only [hx] at h1
      obtain ⟨lu, h3, h4⟩ := sO_ok hF hx
      obtain ⟨lv, h5, h6⟩ := sFAddr_ok h1 h4 h3
      exact ⟨v, lv, h5, h6, h2⟩
  case field t x f =>
    obtain ⟨v, h1, h2⟩ := opt_ok h
    cases hx : sO T x with
    | none => simp [hx] at h1
    | some u =>
      simp only [hx] at h1
      obtain ⟨lu, h3, h4⟩ := sO_ok hF hx
      obtain ⟨lv, h5, h6⟩ := sField_ok h1 h4 h3
      exact ⟨v, lv, h5, h6, h2⟩
  case indexAddr t x ix =>
    unfold o2 at h
    split at h
    · rename_i a b ha hb
      obtain ⟨la, h1, h2⟩ := sO_ok hF ha
      obtain ⟨lb, h3, h4⟩ := sO_ok hF hb
      exact sIAddr_ok h h2 h4 h1 h3
    · exact h.elim
  case index t x ix =>
    unfold o2 at h
    split at h
    · rename_i a b ha hb
      obtain ⟨la, h1, h2⟩ := sO_ok hF ha
      obtain ⟨lb, h3, h4⟩ := sO_ok hF hb
      exact sIndexA_ok h h2 h4 h1 h3
    · exact h.elim
  case extract x k =>
    obtain ⟨v, h1, h2⟩ := opt_ok h
    split at h1
    · rename_i l hx
      obtain ⟨lu, h3, h4⟩ := sO_ok hF hx
      obtain ⟨l', rfl, hl⟩ := h4
      obtain ⟨lv, h5, h6⟩ := hl.get h1
      exact ⟨v, lv, by simp [evPure, evExtract, h3, at_eq, h5], h6, h2⟩
    · cases h1
end Go.Rx

set_option linter.unusedSimpArgs false
set_option linter.unusedVariables false
set_option linter.unusedSectionVars false
namespace Go.Rx
open Go
variable {fs : Fs} {ov : Bool} {ν : Nm} {P : Program} {T : Al (SV (stdA fs ov))} {L : Tr LV} {M : SH (stdA fs ov)} {H : Hp} {snx nx : Nat}

/-- What an operation or a call has left, and what the symbolic run says of it. -/
structure Got (ν : Nm) (snx : Nat) (H : Hp) (nx : Nat) (ν' : Nm) (v : SV (stdA fs ov)) (M' : SH (stdA fs ov)) (snx' : Nat) (wr : List Nat) (r : Out) : Prop where
  lo : Lo snx ν ν'
  nw : ∀ id q o, snx ≤ id → ν' id = some (q, o) → nx ≤ q
  up : nx ≤ r.nx
  sup : snx ≤ snx'
  hs : HS ν' M' snx' r.H r.nx
  v : VS ν' v r.v
  wr : ∀ q ∈ r.wr, ∃ id ∈ wr, ∃ o, ν id = some (q, o)
  keep : ∀ q, q < nx → q ∉ r.wr → r.H.get q = H.get q
  has : ∀ q ∈ r.wr, nx ≤ q ∨ ∃ o, H.get q = some o
  same : r.nx ≠ nx → snx' ≠ snx
theorem HS.le {ν' : Nm} (h : HS ν M snx H nx) (hl : Lo snx ν ν') : NLe ν ν' := fun id x hx => by
  obtain ⟨r, o⟩ := x
  rw [hl id (h.lt id r o hx).2, hx]
theorem got_same (h : HS ν M snx H nx) {v : SV (stdA fs ov)} {lv : LV} (hv : VS ν v lv) : Got ν snx H nx ν v M snx [] ⟨lv, H, nx, []⟩ :=
  ⟨fun _ _ => rfl, fun id q o h1 h2 => by have := (h.lt id q o h2).2; omega, Nat.le_refl _, Nat.le_refl _, h, hv, fun q hq => (by cases hq), fun q _ _ => rfl, fun q hq => (by cases hq), fun h => absurd rfl h⟩
/-- What came of it. -/
def GotBy (ν : Nm) (snx : Nat) (H : Hp) (nx : Nat) (K : KS (stdA fs ov)) (r : Option Out) : Prop := ∃ (o : Out) (ν' : Nm) (v : SV (stdA fs ov)) (M' : SH (stdA fs ov)) (snx' : Nat) (wr : List Nat), r = some o ∧ Got ν snx H nx ν' v M' snx' wr o ∧ K v M' snx' wr

theorem cellAt_ok {ks : List CK} {h : Ll} {i : Int} {j : Nat} {v : SV (stdA fs ov)} (hc : cellAt (A := stdA fs ov) ks h i j = some v) : ∃ k, ks[j]? = some k ∧ VS ν v (cellLV k (h.get i j)) := by
  unfold cellAt at hc
  split at hc
  · rename_i k hk; simp at hc; subst hc; exact ⟨_, hk, rfl⟩
  · rename_i hk; simp at hc; subst hc; exact ⟨_, hk, rfl⟩
  · cases hc
theorem kn_cell (k : CK) (n : Int) : (cellLV k n).kn = true := by cases k <;> rfl
theorem cellsAt_ok {ks : List CK} {h : Ll} {i : Int} {lcs : List LV} {o : Nat} (hi : 0 ≤ i) (hl : i < h.length) (hc : cellsOK lcs o ks h) : ∀ {n j : Nat} {r : List (SV (stdA fs ov))}, cellsAt (A := stdA fs ov) ks h i n j = some r →
    ∃ rs, tk n (lcs.drop (o + i.toNat * ks.length + j)) = some rs ∧ VSL ν r rs ∧ allKn rs = true
  | 0, j, r, h => by simp [cellsAt] at h; subst h; exact ⟨[], by simp [tk], rfl, rfl⟩
  | n + 1, j, r, h => by
    simp only [cellsAt] at h
    rename_i h0
    cases hv : cellAt (A := stdA fs ov) ks h0 i j with
    | none => simp [hv] at h
    | some v =>
      cases hr : cellsAt (A := stdA fs ov) ks h0 i n (j + 1) with
      | none => simp [hv, hr] at h
      | some m =>
        simp [hv, hr] at h; subst h
        obtain ⟨k, hk, hvs⟩ := cellAt_ok (ν := ν) hv
        obtain ⟨rs, h1, h2, h3⟩ := cellsAt_ok hi hl hc hr
        have := hc i.toNat j k (by omega) hk
        rw [show ((i.toNat : Nat) : Int) = i by omega] at this
        obtain ⟨hlt, he⟩ := List.getElem?_eq_some_iff.1 this
        rw [List.drop_eq_getElem_cons hlt, he]
        refine ⟨_ :: rs, ?_, VSL.cons hvs h2, by simp only [allKn, kn_cell]; exact h3⟩
        simp only [tk]
        rw [show o + i.toNat * ks.length + j + 1 = o + i.toNat * ks.length + (j + 1) by omega, h1]
theorem elemAt_ok {ks : List CK} {h : Ll} {i : Int} {j : Nat} {lcs : List LV} {o : Nat} {t : TypeId} {v : SV (stdA fs ov)} (hi : 0 ≤ i) (hl : i < h.length) (hc : cellsOK lcs o ks h) (he : elemAt (A := stdA fs ov) P t ks h i j = some v) :
    ∃ lv, prt P t lcs (o + i.toNat * ks.length + j) = some lv ∧ VS ν v lv ∧ allKn lv.cells = true := by
  unfold elemAt at he
  unfold prt
  cases ha : isAg P t with
  | none => simp [ha] at he
  | some b =>
    cases b with
    | false =>
      simp [ha, at_eq] at he ⊢
      obtain ⟨k, hk, hvs⟩ := cellAt_ok (ν := ν) he
      have := hc i.toNat j k (by omega) hk
      rw [show ((i.toNat : Nat) : Int) = i by omega] at this
      exact ⟨_, this, hvs, by cases k <;> rfl⟩
    | true =>
      cases hs : szOf P t with
      | none => simp [ha, hs] at he
      | some n =>
        cases hr : cellsAt (A := stdA fs ov) ks h i n j with
        | none => simp [ha, hs, hr] at he
        | some r =>
          simp [ha, hs, hr] at he; subst he
          obtain ⟨rs, h1, h2, h3⟩ := cellsAt_ok (ν := ν) hi hl hc hr
          simp only [dp_eq, h1]
          exact ⟨_, rfl, ⟨rs, rfl, h2⟩, h3⟩
theorem sLoad_val (hF : FS ν T L) {t : TypeId} {x : Operand} {K : KS (stdA fs ov)} {H' : Hp} (hO : ∀ id so, looks T (.load t x) = some (some id) → M.get id = some so → OS ν H' id so) (h : sLoad P T M snx t x K) :
    ∃ v lv, evLoad P L H' nx t x = some ⟨lv, H', nx, []⟩ ∧ VS ν v lv ∧ K v M snx [] := by
  unfold sLoad at h
  split at h
  · rename_i id off hx
    obtain ⟨lx, h1, h2⟩ := sO_ok hF hx
    obtain ⟨r, hr, rfl⟩ := h2
    split at h
    · rename_i u cs hg
      obtain ⟨v, h3, h4⟩ := opt_ok h
      obtain ⟨r', lcs, hr', hH, hcs⟩ := hO id _ (by simp [looks, hx]) hg
      rw [hr] at hr'; cases hr'
      obtain ⟨lv, h5, h6⟩ := sPrt_ok h3 hcs
      exact ⟨v, lv, by simp [evLoad, h1, hH, LO.cs, h5], h6, h4⟩
    · exact h.elim
  · rename_i id z i j hx
    obtain ⟨lx, h1, h2⟩ := sO_ok hF hx
    obtain ⟨r, o, hr, h0, rfl⟩ := h2
    split at h
    · rename_i u ks own hh hg
      cases hz : Nat.beq ks.length z
      · simp only [hz, cond_false] at h <;> exact h.elim
      · simp only [hz, cond_true] at h
        obtain rfl : ks.length = z := (beq_iff _ _).1 hz
        obtain ⟨hi, h⟩ := h
        have hi : @LT.lt Int _ i (hh.length : Int) := hi
        have h0 : @LE.le Int _ 0 i := h0
        obtain ⟨v, h3, h4⟩ := opt_ok h
        obtain ⟨_, hd, _⟩ := hO id _ (by simp [looks, hx]) hg
        rcases hd with hd | ⟨r', o', lo, hr', hH, hd⟩
        · omega
        · rw [hr] at hr'; cases hr'
          rcases hd with ⟨lcs, hc, hok⟩ | ⟨base, cs, rfl, hle, hok⟩
          · obtain ⟨lv, h5, h6, h7⟩ := elemAt_ok (ν := ν) h0 hi hok h3
            exact ⟨v, lv, by simp [evLoad, h1, hH, hc, h5], h6, h4⟩
          · obtain ⟨lv, h5, h6, h7⟩ := elemAt_ok (ν := ν) h0 hi hok h3
            have hb : Nat.ble base (o + Int.toNat i * ks.length + j) = true := by simp; omega
            refine ⟨v, lv, ?_, h6, h4⟩
            simp only [evLoad, h1, hH, LO.cs, hb, cond_true]
            rw [show o + Int.toNat i * ks.length + j - base = o - base + Int.toNat i * ks.length + j by omega, h5]
            simp only [h7, cond_true]
    · exact h.elim
  · exact h.elim
theorem VSL.one : ∀ {l : List (SV (stdA fs ov))} {vs : List LV}, VSL ν l vs → sAllOne l = true → allOne vs = true
  | [], vs, h, _ => by rw [h]; rfl
  | x :: l, vs, h, h1 => by
    obtain ⟨y, r, rfl, hx, hl⟩ := h
    have hb : x.one = true ∧ sAllOne l = true := by
      simp only [sAllOne] at h1
      cases hxo : x.one <;> simp [hxo] at h1
      exact ⟨rfl, h1⟩
    have hy : y.one = true := by
      cases x with
      | agg l => exact absurd hb.1 (by simp [SV.one])
      | tup l => exact absurd hb.1 (by simp [SV.one])
      | fn f a c => obtain ⟨a', c', rfl, _, _⟩ := hx; rfl
      | p id off => obtain ⟨r, h1, rfl⟩ := hx; rfl
      | yld id => obtain ⟨r, h1, rfl⟩ := hx; rfl
      | pe id z i j => obtain ⟨r, o, h1, h2, rfl⟩ := hx; rfl
      | sl id off len cap => obtain ⟨r, h1, rfl⟩ := hx; rfl
      | ls own id n => obtain ⟨h0, ⟨rfl, _⟩ | ⟨r, o, _, ⟨_, rfl⟩ | ⟨_, c, _, rfl⟩⟩⟩ := hx <;> rfl
      | _ => subst hx; rfl
    simp only [allOne, hy]
    exact VSL.one hl hb.2
/-- One block is written anew. -/
theorem hs_write (hM : HS ν M snx H nx) {id r : Nat} {so so' : SO (stdA fs ov)} {lo : LO} (hg : M.get id = some so) (hm : so.mine = true) (hm' : so'.mine = true) (hr : ν id = some (r, 0)) (ho : OS ν (H.set r (some lo)) id so') : HS ν (M.set id (some so')) snx (H.set r (some lo)) nx := by
  refine ⟨fun id' so1 h1 => ?_, hM.lt, fun id1 id2 r1 o1 o2 so1 so2 h1 h2 h0 h3 h4 => ?_⟩
  · rw [Al.get_set] at h1
    by_cases e : id' = id
    · subst e; rw [if_pos rfl] at h1; cases h1
      exact ⟨(hM.at_ _ _ hg).1, ho⟩
    · rw [if_neg e] at h1
      obtain ⟨hl, hO⟩ := hM.at_ id' so1 h1
      have hne : ∀ r' o', ν id' = some (r', o') → r' ≠ r := fun r' o' hr' er => by
        subst er
        exact e (hM.inj id id' r' 0 o' so so1 hg hm h1 hr hr').symm
      refine ⟨hl, ?_⟩
      cases so1 with
      | row t cs =>
        obtain ⟨r', lcs, a1, a2, a3⟩ := hO
        exact ⟨r', lcs, a1, by rw [Tr.get_set_ne _ _ (hne _ _ a1)]; exact a2, a3⟩
      | list t ks own h =>
        obtain ⟨a0, a1, a2⟩ := hO
        refine ⟨a0, a1.imp_right ?_, fun ho r' o' hr' => ?_⟩
        · rintro ⟨r', o', lo', b1, b2, b3⟩
          exact ⟨r', o', lo', b1, by rw [Tr.get_set_ne _ _ (hne _ _ b1)]; exact b2, b3⟩
        · obtain ⟨c1, lcs, c2, c3⟩ := a2 ho r' o' hr'
          exact ⟨c1, lcs, by rw [Tr.get_set_ne _ _ (hne _ _ hr')]; exact c2, c3⟩
      | frm g p N T b e =>
        obtain ⟨r', ps, as, body, d, L, a1, a2, a3⟩ := hO
        exact ⟨r', ps, as, body, d, L, a1, by rw [Tr.get_set_ne _ _ (hne _ _ a1)]; exact a2, a3⟩
  · obtain ⟨so3, h9⟩ : ∃ so3, M.get id2 = some so3 := by
      rw [Al.get_set] at h0
      split at h0
      · rename_i e; subst e; exact ⟨_, hg⟩
      · exact ⟨_, h0⟩
    rw [Al.get_set] at h1
    by_cases e : id1 = id
    · subst e; exact hM.inj id1 id2 r1 o1 o2 so so3 hg hm h9 h3 h4
    · rw [if_neg e] at h1; exact hM.inj id1 id2 r1 o1 o2 so1 so3 h1 h2 h9 h3 h4
theorem pt_get : ∀ {k : Nat} {l ys : List LV}, k + ys.length ≤ l.length → ∃ r, pt k l ys = some r ∧ r.length = l.length ∧ ∀ m, r[m]? = if k ≤ m ∧ m < k + ys.length then ys[m - k]? else l[m]?
  | 0, l, [], _ => ⟨l, by cases l <;> rfl, rfl, fun m => by simp⟩
  | 0, [], _ :: _, h => absurd h (by simp)
  | 0, x :: l, y :: ys, h => by
    obtain ⟨r, h1, h2, h3⟩ := pt_get (k := 0) (l := l) (ys := ys) (by simp at h ⊢; omega)
    refine ⟨y :: r, by simp [pt, h1], by simp [h2], fun m => ?_⟩
    cases m with
    | zero => simp
    | succ m =>
      have := h3 m
      simp only [List.getElem?_cons_succ, this, Nat.zero_le, true_and, Nat.sub_zero, Nat.zero_add, List.length_cons]
      by_cases hm : m < ys.length
      · simp [hm]
      · simp [hm]
  | k + 1, [], ys, h => absurd h (by simp only [List.length_nil]; omega)
  | k + 1, x :: l, ys, h => by
    obtain ⟨r, h1, h2, h3⟩ := pt_get (k := k) (l := l) (ys := ys) (by simp at h ⊢; omega)
    refine ⟨x :: r, by simp [pt, h1], by simp [h2], fun m => ?_⟩
    cases m with
    | zero => simp
    | succ m =>
      have := h3 m
      simp only [List.getElem?_cons_succ, this]
      by_cases hm : k ≤ m ∧ m < k + ys.length
      · rw [if_pos hm, if_pos (by omega), show m + 1 - (k + 1) = m - k by omega]
      · rw [if_neg hm, if_neg (by omega)]
theorem get_set_ll {h : Ll} {i : Int} {j : Nat} {v : Int} (h0 : 0 ≤ i) (h1 : i < h.length) {n : Nat} (hr : ∀ x ∈ h, x.length = n) (hj : j < n) (i' : Nat) (j' : Nat) :
    (Ll.set h i j v).get i' j' = if (i' : Int) = i ∧ j' = j then v else h.get i' j' := by
  unfold Ll.set Ll.get
  have hi : i.toNat < h.length := by omega
  have hrow : (h.getD i.toNat []).length = n := by
    rw [List.getD_eq_getElem?_getD, List.getElem?_eq_getElem hi]
    exact hr _ (List.getElem_mem hi)
  have hin : ∀ y : List Int, (List.set h i.toNat y).getD i' [] = if i.toNat = i' then y else h.getD i' [] := fun y => by
    rw [List.getD_eq_getElem?_getD, List.getElem?_set]
    by_cases e : i.toNat = i'
    · subst e; rw [if_pos rfl, if_pos hi, if_pos rfl]; rfl
    · rw [if_neg e, if_neg e, ← List.getD_eq_getElem?_getD]
  rw [Int.toNat_natCast, hin]
  by_cases e : i.toNat = i'
  · subst e
    rw [if_pos rfl]
    have e2 : ((i.toNat : Nat) : Int) = i := Int.toNat_of_nonneg h0
    by_cases ej : j' = j
    · subst ej
      rw [if_pos ⟨e2, rfl⟩, List.getD_eq_getElem?_getD, List.getElem?_set, if_pos rfl, if_pos (by omega)]; rfl
    · rw [if_neg (fun h => ej h.2), List.getD_eq_getElem?_getD, List.getElem?_set, if_neg (fun h => ej h.symm), ← List.getD_eq_getElem?_getD]
  · rw [if_neg e, if_neg (fun h => e (by omega))]
theorem rows_set {h : Ll} {i : Int} {j : Nat} {v : Int} {n : Nat} (hr : ∀ x ∈ h, x.length = n) : ∀ x ∈ Ll.set h i j v, x.length = n := by
  intro x hx
  unfold Ll.set at hx
  by_cases hi : i.toNat < h.length
  · rcases List.mem_or_eq_of_mem_set hx with hx | rfl
    · exact hr x hx
    · rw [List.length_set, List.getD_eq_getElem?_getD, List.getElem?_eq_getElem hi]
      exact hr _ (List.getElem_mem hi)
  · rw [List.set_eq_of_length_le (by omega)] at hx
    exact hr x hx
/-- An element's cells are set, one after another. -/
theorem setsAt_ok {ks : List CK} {i : Int} (h0 : 0 ≤ i) : ∀ {vs : List (SV (stdA fs ov))} {lvs : List LV} {h h' : Ll} {j : Nat}, setsAt (A := stdA fs ov) ks h i j vs = some h' → VSL ν vs lvs → (∀ x ∈ h, x.length = ks.length) → i < h.length →
    h'.length = h.length ∧ (∀ x ∈ h', x.length = ks.length) ∧ (vs = [] ∨ j + vs.length ≤ ks.length) ∧ allOne lvs = true ∧ (∀ (i' j' : Nat), ((i' : Int) ≠ i ∨ j' < j ∨ j + vs.length ≤ j') → h'.get i' j' = h.get i' j') ∧
    (∀ q, q < vs.length → ∃ k, ks[j + q]? = some k ∧ lvs[q]? = some (cellLV k (h'.get i (j + q))))
  | [], lvs, h, h', j, hs, hv, hr, hi => by
    simp only [setsAt, Option.some.injEq] at hs; subst hs
    rw [show lvs = [] from hv]
    exact ⟨rfl, hr, .inl rfl, rfl, fun _ _ _ => rfl, fun q hq => by simp at hq⟩
  | v :: vs, lvs, h, h', j, hs, hv, hr, hi => by
    obtain ⟨y, r, rfl, hy, hvr⟩ := hv
    simp only [setsAt] at hs
    cases h1 : setAt (A := stdA fs ov) ks h i j v with
    | none => simp only [h1] at hs; cases hs
    | some g =>
      simp only [h1] at hs
      have one : ∃ k x, ks[j]? = some k ∧ g = Ll.set h i j x ∧ y = cellLV k x := by
        unfold setAt at h1
        split at h1
        · rename_i k k' n hk
          cases hd : decide (k = k') with
          | false => rw [hd] at h1; cases h1
          | true =>
            rw [hd] at h1; cases h1
            obtain rfl : k = k' := of_decide_eq_true hd
            exact ⟨_, n, hk, rfl, hy⟩
        · rename_i x hk
          cases h1
          refine ⟨_, boolI x, hk, rfl, ?_⟩
          rw [show y = .b x from hy]
          cases x <;> rfl
        · cases h1
      obtain ⟨k, x, hk, rfl, rfl⟩ := one
      have hjl := (List.getElem?_eq_some_iff.1 hk).1
      have hrg : ∀ x' ∈ Ll.set h i j x, x'.length = ks.length := rows_set hr
      have hlg : (Ll.set h i j x).length = h.length := by simp [Ll.set]
      obtain ⟨a1, a2, a3, a4, a5, a6⟩ := setsAt_ok h0 hs hvr hrg (by rw [hlg]; exact hi)
      refine ⟨a1.trans hlg, a2, .inr ?_, ?_, fun i' j' hc => ?_, fun q hq => ?_⟩
      · rcases a3 with rfl | a3
        · simp; omega
        · simp at a3 ⊢; omega
      · simp only [allOne, a4]
        cases k <;> rfl
      · rw [a5 i' j' (by simp at hc; omega), get_set_ll h0 hi hr hjl, if_neg (by simp at hc; omega)]
      · cases q with
        | zero =>
          refine ⟨k, hk, ?_⟩
          have e1 : h'.get i j = x := by
            have := a5 i.toNat j (.inr (.inl (by omega)))
            rw [Int.toNat_of_nonneg h0] at this
            rw [this]
            have e2 := get_set_ll (v := x) h0 hi hr hjl i.toNat j
            rw [Int.toNat_of_nonneg h0, if_pos ⟨rfl, rfl⟩] at e2
            exact e2
          simp [e1]
        | succ q =>
          obtain ⟨k', b1, b2⟩ := a6 q (by simpa using hq)
          exact ⟨k', by rw [← b1]; congr 1; omega, by simpa [show j + (q + 1) = j + 1 + q by omega] using b2⟩
/-- What a store does. -/
theorem sStore_val (hF : FS ν T L) (hlt : ∀ id r o, ν id = some (r, o) → r < nx) {t : TypeId} {x y : Operand} {K : KS (stdA fs ov)} {H' : Hp} (hO : ∀ id so r o o', evO L x = some (.p r o) → ν id = some (r, o') → M.get id = some so → OS ν H' id so) (h : sStore P T M snx t x y K) :
    ∃ id r so so' lo', M.get id = some so ∧ so.mine = true ∧ so'.mine = true ∧ ν id = some (r, 0) ∧ (∃ o, evO L x = some (.p r o)) ∧ (∃ lo, H'.get r = some lo) ∧ (∀ H2 : Hp, H2.get r = some lo' → OS ν H2 id so') ∧ evStore P L H' nx t x y = some ⟨.tup [], H'.set r (some lo'), nx, [r]⟩ ∧ K (.tup []) (M.set id (some so')) snx [id] := by
  unfold sStore at h
  split at h
  · rename_i id off v n hx hy hs
    split at h
    · rename_i u cs hg
      cases hc : (Nat.beq v.cells.length n && sAllOne v.cells)
      · simp only [hc, cond_false] at h <;> exact h.elim
      · simp only [hc, cond_true] at h
        simp only [Bool.and_eq_true] at hc
        cases hp : gpt off cs v.cells with
        | none => simp only [hp] at h <;> exact h.elim
        | some cs' =>
          simp only [hp, Al.force_eq] at h
          obtain ⟨lx, h1, h2⟩ := sO_ok hF hx
          obtain ⟨ly, h3, h4⟩ := sO_ok hF hy
          obtain ⟨r, hr, rfl⟩ := h2
          obtain ⟨r', lcs, hr', hH, hcs⟩ := hO id _ r off 0 h1 hr hg
          rw [hr] at hr'; cases hr'
          obtain ⟨rs, h5, h6⟩ := VSL.pt hp hcs h4.cells
          have hb : Nat.blt r nx = true := by simpa using hlt id r 0 hr
          have hl : Nat.beq ly.cells.length n = true := by rw [h4.cells.length]; exact hc.1
          exact ⟨id, r, .row u cs, .row u cs', .row u rs, hg, rfl, rfl, hr, ⟨off, h1⟩, ⟨_, hH⟩, fun H2 h2 => ⟨r, rs, hr, h2, h6⟩, by simp [evStore, h1, h3, hs, hl, VSL.one h4.cells hc.2, hb, wrt, hH, h5, Tr.force_eq], h⟩
    · exact h.elim
  · rename_i id z i j v n hx hy hs
    split at h
    · rename_i u ks g hg
      cases hc : (Nat.beq ks.length z && (Nat.beq v.cells.length n && Nat.blt 0 n))
      · simp only [hc, cond_false] at h <;> exact h.elim
      · simp only [hc, cond_true] at h
        simp only [Bool.and_eq_true, beq_iff] at hc
        obtain ⟨hz, hn, hn0⟩ := hc
        obtain ⟨hlen, h⟩ := h
        obtain rfl := hz
        cases hp : setsAt (A := stdA fs ov) ks g i j v.cells with
        | none => simp only [hp] at h <;> exact h.elim
        | some g' =>
          simp only [hp, Al.force_eq] at h
          obtain ⟨lx, h1, h2⟩ := sO_ok hF hx
          obtain ⟨ly, h3, h4⟩ := sO_ok hF hy
          obtain ⟨r, o, hr, i0, rfl⟩ := h2
          obtain ⟨hrow, _, hown⟩ := hO id _ r _ o h1 hr hg
          obtain ⟨rfl, lcs, hH, hll, hcell⟩ := hown rfl r o hr
          have hi : @LT.lt Int _ i (g.length : Int) := hlen
          have i0 : @LE.le Int _ 0 i := i0
          obtain ⟨s1, s2, s3, s4, s5, s6⟩ := setsAt_ok i0 hp h4.cells hrow hi
          have hin : i.toNat * ks.length + ks.length ≤ g.length * ks.length := by
            rw [← Nat.succ_mul]; exact Nat.mul_le_mul_right _ (by omega)
          have hnil : v.cells ≠ [] := fun e => by rw [e] at hn; subst hn; simp at hn0
          have s3 := s3.resolve_left hnil
          have hle : 0 + i.toNat * ks.length + j + ly.cells.length ≤ lcs.length := by rw [h4.cells.length, hll]; omega
          obtain ⟨rs, q1, q2, q3⟩ := pt_get hle
          have hb : Nat.blt r nx = true := by simpa using hlt id r 0 hr
          have hl : Nat.beq ly.cells.length n = true := by rw [h4.cells.length, hn]; exact Nat.beq_refl _
          have hc2 : cellsOK rs 0 ks g' := fun i' j' k hi' hj' => by
            rw [q3]
            have hj2 := (List.getElem?_eq_some_iff.1 hj').1
            rw [s1] at hi'
            by_cases hcase : i' = i.toNat ∧ j ≤ j' ∧ j' < j + v.cells.length
            · obtain ⟨rfl, c1, c2⟩ := hcase
              rw [h4.cells.length, if_pos (by omega)]
              obtain ⟨k', b1, b2⟩ := s6 (j' - j) (by omega)
              rw [show j + (j' - j) = j' by omega] at b1 b2
              rw [hj'] at b1; cases b1
              rw [show 0 + i.toNat * ks.length + j' - (0 + i.toNat * ks.length + j) = j' - j by omega, b2, Int.toNat_of_nonneg i0]
            · have hout : ¬ (0 + i.toNat * ks.length + j ≤ 0 + i' * ks.length + j' ∧ 0 + i' * ks.length + j' < 0 + i.toNat * ks.length + j + ly.cells.length) := by
                rw [h4.cells.length]
                intro hin2
                have hi2 : i' = i.toNat := by
                  by_cases hlt2 : i' < i.toNat
                  · have : i' * ks.length + ks.length ≤ i.toNat * ks.length := by rw [← Nat.succ_mul]; exact Nat.mul_le_mul_right _ hlt2
                    omega
                  · by_cases hgt : i.toNat < i'
                    · have : i.toNat * ks.length + ks.length ≤ i' * ks.length := by rw [← Nat.succ_mul]; exact Nat.mul_le_mul_right _ hgt
                      omega
                    · omega
                subst hi2
                exact hcase ⟨rfl, by omega, by omega⟩
              rw [if_neg hout, hcell i' j' k hi' hj']
              rw [s5 i' j' (by
                by_cases hi2 : (i' : Int) = i
                · have : i' = i.toNat := by omega
                  right
                  have := hcase
                  omega
                · exact .inl hi2)]
          exact ⟨id, r, .list u ks true g, .list u ks true g', .gro u ks.length rs, hg, rfl, rfl, hr, ⟨_, h1⟩, ⟨_, hH⟩, fun H2 h2 => ⟨s2, .inr ⟨r, 0, _, hr, h2, .inl ⟨rs, rfl, hc2⟩⟩, fun _ r' o' hr' => by rw [hr] at hr'; cases hr'; exact ⟨rfl, rs, h2, by rw [q2, s1, hll], hc2⟩⟩,
            by simp only [Nat.zero_add] at h1 q1; simp [evStore, h1, h3, hs, hl, s4, hb, wrt, hH, q1, Tr.force_eq], h⟩
    · exact h.elim
  · exact h.elim
theorem sStore_ok (hF : FS ν T L) (hM : HS ν M snx H nx) {t : TypeId} {x y : Operand} {K : KS (stdA fs ov)} (h : sStore P T M snx t x y K) : GotBy ν snx H nx K (evStore P L H nx t x y) := by
  obtain ⟨id, r, so, so', lo', hg, hm, hm', hr, ⟨o, hx⟩, ⟨lo, hl⟩, hos, he, hk⟩ := sStore_val (nx := nx) hF (fun id r o hr => (hM.lt id r o hr).1) (fun id so r o o' _ _ hg => (hM.at_ id so hg).2) h
  refine ⟨⟨.tup [], H.set r (some lo'), nx, [r]⟩, ν, .tup [], M.set id (some so'), snx, [id], he, ?_, hk⟩
  exact ⟨fun _ _ => rfl, fun id q o h1 h2 => by have := (hM.lt id q o h2).2; omega, Nat.le_refl _, Nat.le_refl _, hs_write hM hg hm hm' hr (hos _ (Tr.get_set_same _ _ _)), ⟨[], rfl, rfl⟩, fun q hq => ⟨id, by simp, 0, by simp at hq; subst hq; exact hr⟩, fun q _ hq => (by simp at hq; exact Tr.get_set_ne _ _ hq), fun q hq => (by simp at hq; subst hq; exact .inr ⟨_, hl⟩), fun h => absurd rfl h⟩
theorem OS.sub {H' : Hp} {ν' : Nm} {id : Nat} {so : SO (stdA fs ov)} (hO : OS ν H id so) (hle : NLe ν ν') (hid : ν' id = ν id) (hk : ∀ r o lo, ν id = some (r, o) → H.get r = some lo → H'.get r = some lo) : OS ν' H' id so := by
  cases so with
  | row t cs =>
    obtain ⟨r, lcs, a1, a2, a3⟩ := hO
    exact ⟨r, lcs, hle _ _ a1, hk _ _ _ a1 a2, a3.mono hle⟩
  | list t ks own h =>
    obtain ⟨a0, a1, a2⟩ := hO
    refine ⟨a0, a1.imp_right ?_, fun ho r o hr => ?_⟩
    · rintro ⟨r, o, lo, b1, b2, b3⟩
      exact ⟨r, o, lo, hle _ _ b1, hk _ _ _ b1 b2, b3⟩
    · rw [hid] at hr
      obtain ⟨c1, lcs, c2, c3⟩ := a2 ho r o hr
      exact ⟨c1, lcs, hk _ _ _ hr c2, c3⟩
  | frm g p N T b e =>
    obtain ⟨r, ps, as, body, d, L, a1, a2, a3, a4⟩ := hO
    exact ⟨r, ps, as, body, d, L, hle _ _ a1, hk _ _ _ a1 a2, a3.up hle, a4⟩
def updN (ν : Nm) (id : Nat) (x : Option (Nat × Nat)) : Nm := fun j => if j = id then x else ν j
theorem updN_same {id : Nat} {x : Option (Nat × Nat)} : updN ν id x id = x := by simp [updN]
theorem updN_ne {id j : Nat} {x : Option (Nat × Nat)} (h : j ≠ id) : updN ν id x j = ν j := by simp [updN, h]
/-- A new block. -/
theorem hs_new (hM : HS ν M snx H nx) {so : SO (stdA fs ov)} {lo : LO} (ho : ∀ ν', NLe ν ν' → ν' snx = some (nx, 0) → ∀ H' : Hp, H'.get nx = some lo → OS ν' H' snx so) :
    HS (updN ν snx (some (nx, 0))) (M.set snx (some so)) (snx + 1) (H.set nx (some lo)) (nx + 1) ∧ NLe ν (updN ν snx (some (nx, 0))) := by
  have hle : NLe ν (updN ν snx (some (nx, 0))) := fun id x hx => by
    obtain ⟨r, o⟩ := x
    have := (hM.lt id r o hx).2
    rw [updN_ne (by omega)]; exact hx
  refine ⟨⟨fun id so1 h1 => ?_, fun id r o h1 => ?_, fun id1 id2 r1 o1 o2 so1 so2 h1 h2 h0 h3 h4 => ?_⟩, hle⟩
  · rw [Al.get_set] at h1
    by_cases e : id = snx
    · subst e; rw [if_pos rfl] at h1; cases h1
      exact ⟨by omega, ho _ hle updN_same _ (Tr.get_set_same _ _ _)⟩
    · rw [if_neg e] at h1
      obtain ⟨hl, hO⟩ := hM.at_ id so1 h1
      exact ⟨by omega, hO.sub hle (updN_ne e) fun r o lo' a1 a2 => by
        have := (hM.lt id r o a1).1
        rw [Tr.get_set_ne _ _ (by omega)]; exact a2⟩
  · by_cases e : id = snx
    · subst e; rw [updN_same] at h1; cases h1; omega
    · rw [updN_ne e] at h1; have := hM.lt id r o h1; omega
  · rw [Al.get_set] at h1
    have old : ∀ {i r o}, i ≠ snx → updN ν snx (some (nx, 0)) i = some (r, o) → r < nx := fun e h => by rw [updN_ne e] at h; exact (hM.lt _ _ _ h).1
    by_cases e1 : id1 = snx
    · subst e1; rw [updN_same] at h3; cases h3
      by_cases e2 : id2 = id1
      · exact e2.symm
      · have := old e2 h4; omega
    · rw [if_neg e1] at h1
      by_cases e2 : id2 = snx
      · subst e2; rw [updN_same] at h4; cases h4; have := old e1 h3; omega
      · rw [updN_ne e1] at h3; rw [updN_ne e2] at h4
        rw [Al.get_set_ne _ _ e2] at h0
        exact hM.inj id1 id2 r1 o1 o2 so1 so2 h1 h2 h0 h3 h4
theorem sFresh_ok (hM : HS ν M snx H nx) {so : SO (stdA fs ov)} {lo : LO} {v : SV (stdA fs ov)} {lv : LV} {K : KS (stdA fs ov)} (h : sFresh M snx so v [] K) (ho : ∀ ν', NLe ν ν' → ν' snx = some (nx, 0) → ∀ H' : Hp, H'.get nx = some lo → OS ν' H' snx so)
    (hv : ∀ ν' : Nm, ν' snx = some (nx, 0) → VS ν' v lv) {f : Nat → LV} (hf : f nx = lv) : GotBy ν snx H nx K (fresh H nx lo f []) := by
  simp only [sFresh, Al.force_eq] at h
  obtain ⟨h1, h2⟩ := hs_new hM ho
  refine ⟨⟨lv, H.set nx (some lo), nx + 1, []⟩, updN ν snx (some (nx, 0)), v, M.set snx (some so), snx + 1, [], by rw [fresh_eq, hf], ?_, h⟩
  exact ⟨fun id hid => updN_ne (by omega), fun id q o a1 a2 => by
    by_cases e : id = snx
    · subst e; rw [updN_same] at a2; cases a2; exact Nat.le_refl _
    · rw [updN_ne e] at a2; have := (hM.lt _ _ _ a2).2; omega, by dsimp only; omega, by omega, h1, hv _ updN_same, fun q hq => (by cases hq), fun q hq _ => Tr.get_set_ne _ _ (by omega), fun q hq => (by cases hq), fun _ => by omega⟩
theorem sRep_ok {z : List (SV (stdA fs ov))} {lz : List LV} (h : VSL ν z lz) : ∀ n, VSL ν (sRep n z) (rep n lz)
  | 0 => rfl
  | n + 1 => by simp only [sRep, rep, ap_eq]; exact h.append (sRep_ok h n)
theorem foldS_ok {f : Int → Int → Int} {k : IntKind} : ∀ {l : List (SV (stdA fs ov))} {ls : List LV} {x : Int} {v : SV (stdA fs ov)}, foldS (A := stdA fs ov) f k x l = some v → VSL ν l ls → ∃ lv, foldI f k x ls = some lv ∧ VS ν v lv
  | [], ls, x, v, h, hl => by simp [foldS] at h; subst h; rw [hl]; exact ⟨_, rfl, rfl⟩
  | y :: l, ls, x, v, h, hl => by
    obtain ⟨ly, r, rfl, hy, hl⟩ := hl
    cases y <;> simp only [foldS] at h <;> try cases h
    rename_i k' n
    obtain rfl := hy
    cases hk : decide (k = k')
    · simp [hk] at h
    · simp only [hk, cond_true] at h
      obtain ⟨lv, h1, h2⟩ := foldS_ok h hl
      exact ⟨lv, by simp [foldI, hk, nI_eq, h1], h2⟩
end Go.Rx

set_option linter.unusedSimpArgs false
set_option linter.unusedVariables false
set_option linter.unusedSectionVars false
namespace Go.Rx
open Go
variable {fs : Fs} {ov : Bool} {ν : Nm} {P : Program} {T : Al (SV (stdA fs ov))} {L : Tr LV} {M : SH (stdA fs ov)} {H : Hp} {snx nx : Nat}
def cellI : Int ⊕ Bool → Int
  | .inl n => n
  | .inr b => boolI b
theorem row_std (l : List (Int ⊕ Bool)) : (stdA fs ov).row l = [l.map cellI] := by
  show [l.map _] = [l.map cellI]
  congr 2
theorem rowOf_ok : ∀ {ks : List CK} {cs : List (SV (stdA fs ov))} {lcs : List LV} {x : List (Int ⊕ Bool)}, rowOf (A := stdA fs ov) ks cs = some x → VSL ν cs lcs →
    lcs.length = ks.length ∧ x.length = ks.length ∧ allOne lcs = true ∧ ∀ (j : Nat) (k : CK), ks[j]? = some k → lcs[j]? = some (cellLV k ((x.map cellI).getD j 0))
  | [], [], lcs, x, h, hv => by
    simp [rowOf] at h; subst h
    rw [show lcs = [] from hv]
    exact ⟨rfl, rfl, rfl, fun j k h => by simp at h⟩
  | .int k :: ks, .i k' n :: l, lcs, x, h, hv => by
    simp only [rowOf] at h
    cases hk : decide (k = k')
    · simp [hk] at h
    · simp only [hk, cond_true] at h
      obtain rfl : k = k' := of_decide_eq_true hk
      split at h
      · rename_i r hr
        cases h
        obtain ⟨y, lr, rfl, h1, h2⟩ := hv
        obtain ⟨a, b, c, d⟩ := rowOf_ok hr h2
        obtain rfl : y = .i k n := h1
        refine ⟨by simp [a], by simp [b], by simp [allOne, LV.one, c], fun j q hj => ?_⟩
        cases j with
        | zero => simp at hj; subst hj; rfl
        | succ j => simpa using d j q (by simpa using hj)
      · cases h
  | .bool :: ks, .b b :: l, lcs, x, h, hv => by
    simp only [rowOf] at h
    split at h
    · rename_i r hr
      cases h
      obtain ⟨y, lr, rfl, h1, h2⟩ := hv
      obtain ⟨a, b', c, d⟩ := rowOf_ok hr h2
      obtain rfl : y = .b b := h1
      refine ⟨by simp [a], by simp [b'], by simp [allOne, LV.one, c], fun j q hj => ?_⟩
      cases j with
      | zero => simp at hj; subst hj; cases b <;> rfl
      | succ j => simpa using d j q (by simpa using hj)
    · cases h
/-- Cells of so many rows. -/
structure Rows (ks : List CK) (h : Ll) (news : List LV) : Prop where
  rows : ∀ x ∈ h, x.length = ks.length
  len : news.length = h.length * ks.length
  ok : cellsOK news 0 ks h
  one : allOne news = true
theorem allOne_app : ∀ {l m : List LV}, allOne l = true → allOne m = true → allOne (l ++ m) = true
  | [], _, _, h => h
  | x :: l, m, h, h' => by
    simp only [allOne, List.cons_append] at h ⊢
    cases hx : x.one <;> simp [hx] at h
    exact allOne_app h h'
theorem Rows.nil {ks : List CK} : Rows ks [] [] := ⟨by simp, by simp, fun i j k hi => by simp at hi, rfl⟩
theorem getLl_app {g h : Ll} {i j : Nat} : (g ++ h : Ll).get i j = if i < g.length then g.get i j else h.get (i - g.length : Nat) j := by
  simp only [Ll.get, Int.toNat_natCast, List.getD_eq_getElem?_getD]
  split
  · rw [List.getElem?_append_left (by assumption)]
  · rw [List.getElem?_append_right (by omega)]
theorem Rows.app {ks : List CK} {g h : Ll} {a b : List LV} (ha : Rows ks g a) (hb : Rows ks h b) : Rows ks (g ++ h) (a ++ b) := by
  refine ⟨fun x hx => ?_, by simp [ha.len, hb.len, Nat.add_mul], fun i j k hi hj => ?_, allOne_app ha.one hb.one⟩
  · rcases List.mem_append.1 hx with hx | hx
    · exact ha.rows x hx
    · exact hb.rows x hx
  · have hjl : j < ks.length := (List.getElem?_eq_some_iff.1 hj).1
    rw [getLl_app]
    split
    · rename_i hig
      have hb2 : i * ks.length + j < g.length * ks.length := by
        have : (i + 1) * ks.length ≤ g.length * ks.length := Nat.mul_le_mul_right _ hig
        rw [Nat.add_mul, Nat.one_mul] at this
        omega
      rw [Nat.zero_add, List.getElem?_append_left (by rw [ha.len]; exact hb2)]
      have := ha.ok i j k hig hj
      rwa [Nat.zero_add] at this
    · rename_i hig
      have he : i * ks.length = (i - g.length) * ks.length + g.length * ks.length := by rw [← Nat.add_mul]; congr 1; omega
      rw [Nat.zero_add, List.getElem?_append_right (by rw [ha.len]; omega), ha.len, show i * ks.length + j - g.length * ks.length = (i - g.length) * ks.length + j by omega]
      have := hb.ok (i - g.length) j k (by simp at hi; omega) hj
      rwa [Nat.zero_add] at this
theorem Rows.one_row {ks : List CK} {cs : List (SV (stdA fs ov))} {lcs : List LV} {x : List (Int ⊕ Bool)} (h : rowOf (A := stdA fs ov) ks cs = some x) (hv : VSL ν cs lcs) : Rows ks [x.map cellI] lcs := by
  obtain ⟨a, b, c, d⟩ := rowOf_ok h hv
  refine ⟨by simp [b], by simp [a], fun i j k hi hj => ?_, c⟩
  have : i = 0 := by simpa using hi
  subst this
  rw [Nat.zero_add, Nat.zero_mul, Nat.zero_add]
  exact d j k hj
theorem tk_of : ∀ {n : Nat} {l : List LV}, n ≤ l.length → Rx.tk n l = some (l.take n)
  | 0, l, _ => by simp [Rx.tk]
  | n + 1, [], h => by simp at h
  | n + 1, x :: l, h => by
    simp only [Rx.tk]
    rw [tk_of (by simpa using h)]
    rfl
theorem rowsOf_ok {ks : List CK} : ∀ {m : Nat} {cs : List (SV (stdA fs ov))} {lcs : List LV} {h : Ll}, rowsOf (A := stdA fs ov) ks m cs = some h → VSL ν cs lcs → h.length = m ∧ ∃ news, Rx.tk (m * ks.length) lcs = some news ∧ Rows ks h news
  | 0, cs, lcs, h, he, hv => by
    simp [rowsOf] at he
    subst he
    exact ⟨rfl, [], by simp [Rx.tk], Rows.nil⟩
  | m + 1, cs, lcs, h, he, hv => by
    simp only [rowsOf] at he
    split at he
    · rename_i r hr
      split at he
      · rename_i x g hx hg
        obtain ⟨rs, t1, t2⟩ := VSL.tk hr hv
        obtain ⟨e1, e2⟩ := tk_ok t1
        have hd : VSL ν (cs.drop ks.length) (lcs.drop ks.length) := hv.drop _
        obtain ⟨g1, news, g2, g3⟩ := rowsOf_ok hg hd
        have r1 := Rows.one_row hx t2
        have tot : Rx.tk ((m + 1) * ks.length) lcs = some (rs ++ news) := by
          obtain ⟨f1, f2⟩ := tk_ok g2
          rw [tk_of (by simp at f2 ⊢; rw [Nat.add_mul]; omega)]
          subst e1 f1
          rw [Nat.add_mul, Nat.one_mul, Nat.add_comm (m * ks.length), List.take_add]
        have fin : h = [x.map cellI] ++ g := by
          cases m with
          | zero =>
            have e0 : some ((stdA fs ov).row x) = some h := he
            have : g = [] := List.length_eq_zero_iff.1 g1
            rw [row_std] at e0
            rw [this]
            exact (Option.some.inj e0).symm
          | succ m =>
            have e0 : some ((stdA fs ov).cat ((stdA fs ov).row x) g) = some h := he
            rw [row_std] at e0
            exact (Option.some.inj e0).symm
        subst fin
        exact ⟨by simp [g1], _, tot, r1.app g3⟩
      · cases he
    · cases he
end Go.Rx

set_option linter.unusedSimpArgs false
set_option linter.unusedVariables false
set_option linter.unusedSectionVars false
namespace Go.Rx
open Go
variable {fs : Fs} {ov : Bool} {ν : Nm} {P : Program} {T : Al (SV (stdA fs ov))} {L : Tr LV} {M : SH (stdA fs ov)} {H : Hp} {snx nx : Nat}
theorem room_ok {h : Ll} {p : Prop} (hr : room (A := stdA fs ov) h p) : h.length ≤ 1000000 ∧ p := by
  obtain ⟨a, b⟩ := hr
  have a : (h.length : Int) ≤ 1000000 := a
  exact ⟨by omega, b⟩
theorem fits_of {n bytes : Nat} (h1 : n ≤ 1000000) (h2 : bytes ≤ 140737488) : fits n bytes = true := by
  have : n * bytes ≤ 1000000 * 140737488 := Nat.mul_le_mul h1 h2
  simp [fits]
  omega
theorem os_list {e : TypeId} {ks : List CK} {h : Ll} {news : List LV} (hr : Rows ks h news) : ∀ ν' : Nm, NLe ν ν' → ν' snx = some (nx, 0) → ∀ H' : Hp, H'.get nx = some (.gro e ks.length news) → OS (fs := fs) (ov := ov) ν' H' snx (.list e ks true h) :=
  fun ν' _ hn H' hH => ⟨hr.rows, .inr ⟨nx, 0, _, hn, hH, .inl ⟨news, rfl, hr.ok⟩⟩, fun _ r o h1 => by rw [hn] at h1; cases h1; exact ⟨rfl, news, hH, hr.len, hr.ok⟩⟩
theorem vs_list {h : Ll} : ∀ ν' : Nm, ν' snx = some (nx, 0) → VS (fs := fs) (ov := ov) ν' (.ls true snx ((h.length : Nat) : Int)) (.gs nx 0 0 h.length) :=
  fun ν' hn => ⟨Int.natCast_nonneg _, .inr ⟨nx, 0, hn, .inl ⟨rfl, by simp⟩⟩⟩
theorem sNew_ok (hM : HS ν M snx H nx) {e : TypeId} {ks : List CK} {h : Ll} {news : List LV} {bytes : Nat} {K : KS (stdA fs ov)} (hr : Rows ks h news) (hb : bytes ≤ 140737488) (hs : sNew M snx e ks h K) :
    GotBy ν snx H nx K (appNew H nx e ks.length bytes h.length news) := by
  obtain ⟨h1, hs⟩ := room_ok hs
  unfold appNew
  rw [fits_of h1 hb, cond_true]
  exact sFresh_ok hM hs (os_list hr) vs_list rfl
theorem hs_kill (hM : HS ν M snx H nx) {id r o : Nat} {so : SO (stdA fs ov)} (hg : M.get id = some so) (hm : so.mine = true) (hr : ν id = some (r, o)) : HS ν (M.set id none) snx (H.set r none) nx := by
  have sub : ∀ id' so', (M.set id none).get id' = some so' → id' ≠ id ∧ M.get id' = some so' := fun id' so' h => by
    rw [Al.get_set] at h
    split at h
    · cases h
    · rename_i e; exact ⟨e, h⟩
  refine ⟨fun id' so' h => ?_, hM.lt, fun id1 id2 r1 o1 o2 so1 so2 h hm' h' => hM.inj id1 id2 r1 o1 o2 so1 so2 (sub _ _ h).2 hm' (sub _ _ h').2⟩
  obtain ⟨hne, h⟩ := sub id' so' h
  obtain ⟨h1, h2⟩ := hM.at_ id' so' h
  refine ⟨h1, h2.sub (fun _ _ h => h) rfl fun r' o' lo a1 a2 => ?_⟩
  rw [Tr.get_set_ne _ _ fun e => hne ?_]
  · exact a2
  · subst e
    exact (hM.inj id id' r' o o' so so' hg hm h hr a1).symm
theorem sGrow_ok (hM : HS ν M snx H nx) {e : TypeId} {ks : List CK} {h : Ll} {news : List LV} {K : KS (stdA fs ov)} (hr : Rows ks h news) {id r o : Nat} {so : SO (stdA fs ov)} {lo : LO} (hg : M.get id = some so) (hm : so.mine = true) (hn : ν id = some (r, o)) (hl : H.get r = some lo)
    (hs : sGrow M snx id e ks h K) : GotBy ν snx H nx K (grow H nx r e ks.length h.length news) := by
  obtain ⟨h1, hs⟩ := room_ok hs
  rw [Al.force_eq] at hs
  obtain ⟨o1, ν', v, M', snx', wr, e1, g, hK⟩ := sFresh_ok (K := fun v M snx _ => K v M snx [id]) (hs_kill hM hg hm hn) hs (os_list (e := e) hr) vs_list (f := fun id => LV.gs id 0 0 h.length) rfl
  rw [fresh_eq] at e1
  cases e1
  refine ⟨⟨.gs nx 0 0 h.length, (H.set r none).set nx (some (.gro e ks.length news)), nx + 1, [r]⟩, ν', v, M', snx', [id], by rw [grow_eq], ⟨g.lo, g.nw, g.up, g.sup, g.hs, g.v, fun q hq => ?_, fun q h1 h2 => ?_, fun q hq => ?_, g.same⟩, hK⟩
  · simp at hq; subst hq; exact ⟨id, by simp, o, hn⟩
  · have := g.keep q h1 (by simp)
    rw [this, Tr.get_set_ne _ _ (by simpa using h2)]
  · simp at hq; subst hq; exact .inr ⟨_, hl⟩
end Go.Rx

set_option linter.unusedSimpArgs false
set_option linter.unusedVariables false
set_option linter.unusedSectionVars false
namespace Go.Rx
open Go
variable {fs : Fs} {ov : Bool} {ν : Nm} {P : Program} {T : Al (SV (stdA fs ov))} {L : Tr LV} {M : SH (stdA fs ov)} {H : Hp} {snx nx : Nat}
theorem sMore_ok (hM : HS ν M snx H nx) {ks : List CK} {x : SV (stdA fs ov)} {lx : LV} {h : Ll} (hs : sMore M ks x = some h) (hx : VS ν x lx) : ∃ m news, h.length = m + 1 ∧ more H ks.length lx = some (m + 1, news) ∧ Rows ks h news := by
  unfold sMore at hs
  split at hs
  · rename_i id off len cap
    split at hs
    · rename_i t cs hg
      obtain ⟨r, hr, rfl⟩ := hx
      obtain ⟨_, r', lcs, hr', hH, hcs⟩ := hM.at_ id _ hg
      rw [hr] at hr'; cases hr'
      obtain ⟨h1, news, h2, h3⟩ := rowsOf_ok hs (hcs.drop off)
      refine ⟨len, news, h1, ?_, h3⟩
      simp only [more, rd, hH, LO.cs, dp_eq, h2]
    · cases hs
  · cases hs
theorem allOne_of : ∀ {l : List LV}, (∀ (i : Nat) (x : LV), l[i]? = some x → x.one = true) → allOne l = true
  | [], _ => rfl
  | x :: l, h => by
    simp only [allOne, h 0 x rfl]
    exact allOne_of fun i y hy => h (i + 1) y (by simpa using hy)
theorem rows_of {ks : List CK} {g : Ll} {lcs : List LV} (h1 : ∀ x ∈ g, x.length = ks.length) (h2 : lcs.length = g.length * ks.length) (h3 : cellsOK lcs 0 ks g) : Rows ks g lcs := by
  refine ⟨h1, h2, h3, allOne_of fun n x hx => ?_⟩
  have hn : n < g.length * ks.length := by rw [← h2]; exact (List.getElem?_eq_some_iff.1 hx).1
  have hk : 0 < ks.length := by
    rcases Nat.eq_zero_or_pos ks.length with e | e
    · rw [e] at hn; omega
    · exact e
  have hi : n / ks.length < g.length := Nat.div_lt_of_lt_mul (by rwa [Nat.mul_comm])
  have hj : n % ks.length < ks.length := Nat.mod_lt _ hk
  have := h3 _ _ _ hi (List.getElem?_eq_getElem hj)
  rw [show 0 + n / ks.length * ks.length + n % ks.length = n by rw [Nat.zero_add, Nat.mul_comm]; exact Nat.div_add_mod n ks.length, hx] at this
  rw [Option.some.inj this]
  cases ks[n % ks.length] <;> rfl
theorem hs_drop (hM : HS ν M snx H nx) {id : Nat} : HS ν (M.set id none) snx H nx := by
  have sub : ∀ id' so', (M.set id none).get id' = some so' → M.get id' = some so' := fun id' so' h => by
    rw [Al.get_set] at h
    split at h
    · cases h
    · exact h
  exact ⟨fun id' so' h => hM.at_ id' so' (sub _ _ h), hM.lt, fun id1 id2 r1 o1 o2 so1 so2 h hm' h' => hM.inj id1 id2 r1 o1 o2 so1 so2 (sub _ _ h) hm' (sub _ _ h')⟩
theorem sFirst_ok (hM : HS ν M snx H nx) {e : TypeId} {ks : List CK} {h : Ll} {news : List LV} {bytes id : Nat} {K : KS (stdA fs ov)} (hr : Rows ks h news) (hb : bytes ≤ 140737488) (hs : sGrow M snx id e ks h K) :
    GotBy ν snx H nx K (appNew H nx e ks.length bytes h.length news) := by
  obtain ⟨h1, hs⟩ := room_ok hs
  rw [Al.force_eq] at hs
  unfold appNew
  rw [fits_of h1 hb, cond_true]
  obtain ⟨o1, ν', v, M', snx', wr, e1, g, hK⟩ := sFresh_ok (K := fun v M snx _ => K v M snx [id]) (hs_drop hM) hs (os_list (e := e) hr) vs_list (f := fun id => LV.gs id 0 0 h.length) rfl
  have e2 := e1
  rw [fresh_eq] at e2
  cases e2
  exact ⟨_, ν', v, M', snx', [id], e1, ⟨g.lo, g.nw, g.up, g.sup, g.hs, g.v, fun q hq => (by simp at hq), g.keep, g.has, g.same⟩, hK⟩
theorem sAppNe_ok (hM : HS ν M snx H nx) {i : TypeInfo} {e : TypeId} {ks : List CK} {s : SV (stdA fs ov)} {ls : LV} {K : KS (stdA fs ov)} {hh : Ll} {m : Nat} {news : List LV} (c1 : ks.length = i.size) (c3 : i.bytes ≤ 140737488) (m1 : hh.length = m + 1) (m3 : Rows ks hh news) (h : sAppNe i e ks s M snx hh K) (hs : VS ν s ls) :
    GotBy ν snx H nx K (appSome H nx e i.size i.bytes (m + 1) news ls) := by
  unfold sAppNe at h
  split at h
  · obtain rfl : ls = .nils := hs
    simp only [appSome]
    rw [← m1, ← c1]
    exact sNew_ok hM m3 c3 h
  · obtain ⟨r, hr, rfl⟩ := hs
    simp only [appSome]
    rw [← m1, ← c1]
    exact sNew_ok hM m3 c3 h
  · rename_i id n
    split at h
    · rename_i e' ks' g hg
      cases hb : (Nat.beq e' e && decide (ks' = ks))
      · rw [hb] at h; exact h.elim
      · rw [hb, cond_true] at h
        simp only [Bool.and_eq_true, beq_iff, decide_eq_true_eq] at hb
        obtain ⟨rfl, rfl⟩ := hb
        obtain ⟨hn, h⟩ := h
        have hn : n = (g.length : Int) := hn
        subst hn
        obtain ⟨_, hrow, _, hown⟩ := hM.at_ id _ hg
        obtain ⟨n0, ⟨rfl, h3⟩ | ⟨r, o, hr, hv⟩⟩ := hs
        · have hg0 : g = [] := by
            have h3 : (g.length : Int) = 0 := h3
            exact List.length_eq_zero_iff.1 (by omega)
          subst hg0
          simp only [appSome]
          rw [← m1, ← c1]
          exact sFirst_ok hM m3 c3 h
        · obtain ⟨rfl, lcs, hl, hlen, hok⟩ := hown rfl r o hr
          obtain ⟨-, rfl⟩ | ⟨hf, _⟩ := hv
          · have r0 := rows_of hrow hlen hok
            have rr := r0.app m3
            have hroom := (room_ok h).1
            have hlt : r < nx := (hM.lt id r 0 hr).1
            have e1 : (g ++ hh : Ll).length = g.length + (m + 1) := by rw [List.length_append, m1]
            have hf2 : fits (g.length + (m + 1)) i.bytes = true := fits_of (by rw [← e1]; exact hroom) c3
            simp only [appSome, appGs, hl, Int.toNat_natCast, ← c1]
            rw [tk_of (by rw [hlen]; exact Nat.le_refl _)]
            simp only [(show Nat.beq e' e' = true by simp), (show Nat.beq ks'.length ks'.length = true by simp), (show Nat.blt r nx = true by simpa using hlt), hf2, Bool.and_self, cond_true, ap_eq]
            rw [← hlen, List.take_length, ← e1]
            exact sGrow_ok hM rr hg rfl hr hl h
          · cases hf
    · exact h.elim
  · rename_i id len cap
    split at h
    · rename_i e' cs hg
      cases hb : (Nat.beq e' e && Nat.beq cs.length (cap * i.size) && Nat.ble (len + 1) cap && Nat.ble cap 1000000)
      · rw [hb] at h; exact h.elim
      · rw [hb, cond_true] at h
        split at h
        · rename_i g hg2
          obtain ⟨r, hr, rfl⟩ := hs
          obtain ⟨_, r', lcs, hr', hl, hcs⟩ := hM.at_ id _ hg
          rw [hr] at hr'; cases hr'
          obtain ⟨g1, news0, g2, g3⟩ := rowsOf_ok hg2 hcs
          have rr := g3.app m3
          have hroom : (g ++ hh : Ll).length ≤ 1000000 := by
            split at h <;> exact (room_ok h).1
          have hlt : r < nx := (hM.lt id r 0 hr).1
          have e1 : (g ++ hh : Ll).length = len + 1 + (m + 1) := by rw [List.length_append, m1, g1]
          have hf2 : fits (len + 1 + (m + 1)) i.bytes = true := fits_of (by rw [← e1]; exact hroom) c3
          have hlen : lcs.length = cs.length := hcs.length
          simp only [Bool.and_eq_true] at hb
          obtain ⟨⟨⟨b1, b2⟩, b3⟩, b4⟩ := hb
          simp only [appSome, appSl, hl, hlen, b1, b2, b3, b4, hf2, (show Nat.blt r nx = true by simpa using hlt), Bool.and_self, cond_true]
          rw [← c1, g2]
          simp only [ap_eq, nN_eq]
          obtain rfl : e' = e := by simpa using b1
          rw [← e1]
          cases hfull : Nat.beq (len + 1) cap with
          | true =>
            simp only [hfull] at h
            exact sNew_ok hM rr c3 h
          | false =>
            simp only [hfull] at h
            exact sGrow_ok hM rr hg rfl hr hl h
        · exact h.elim
    · exact h.elim
  · exact h.elim
/-- The cells of a list. -/
theorem rd_list {r o : Nat} {lo : LO} {ks : List CK} {h : Ll} (hl : H.get r = some lo) (hd : RD lo o ks h) (hr : ∀ x ∈ h, x.length = ks.length) (hk : 0 < ks.length) (hh : 0 < h.length) : ∃ news, rd H r o (h.length * ks.length) = some news ∧ Rows ks h news := by
  have cut : ∀ (cs : List LV) (o : Nat), cellsOK cs o ks h → ∃ news, tk (h.length * ks.length) (dp o cs) = some news ∧ Rows ks h news ∧ ∀ x ∈ news, x.kn = true := fun cs o hc => by
    have e1 : (h.length - 1) * ks.length + ks.length = h.length * ks.length := by rw [← Nat.succ_mul]; congr 1; omega
    have hlen : o + h.length * ks.length ≤ cs.length := by
      have := hc (h.length - 1) (ks.length - 1) ks[ks.length - 1] (by omega) (List.getElem?_eq_getElem (by omega))
      have := (List.getElem?_eq_some_iff.1 this).1
      omega
    rw [dp_eq, tk_of (by simp; omega)]
    have hat : ∀ (i j : Nat) (k : CK), i < h.length → ks[j]? = some k → ((cs.drop o).take (h.length * ks.length))[0 + i * ks.length + j]? = some (cellLV k (h.get i j)) := fun i j k hi hj => by
      have hjl : j < ks.length := (List.getElem?_eq_some_iff.1 hj).1
      have hb2 : i * ks.length + j < h.length * ks.length := by
        have : (i + 1) * ks.length ≤ h.length * ks.length := Nat.mul_le_mul_right _ hi
        rw [Nat.add_mul, Nat.one_mul] at this
        omega
      rw [Nat.zero_add, List.getElem?_take_of_lt hb2, List.getElem?_drop]
      have := hc i j k hi hj
      rwa [Nat.add_assoc] at this
    have hR := rows_of hr (by simp; omega) hat
    refine ⟨_, rfl, hR, fun x hx => ?_⟩
    obtain ⟨n, hn, rfl⟩ := List.getElem_of_mem hx
    have hn' : n < h.length * ks.length := by simp at hn; omega
    have hi : n / ks.length < h.length := Nat.div_lt_of_lt_mul (by rwa [Nat.mul_comm])
    have hj : n % ks.length < ks.length := Nat.mod_lt _ hk
    have := hat _ _ _ hi (List.getElem?_eq_getElem hj)
    rw [show 0 + n / ks.length * ks.length + n % ks.length = n by rw [Nat.zero_add, Nat.mul_comm]; exact Nat.div_add_mod n ks.length, List.getElem?_eq_getElem hn] at this
    rw [Option.some.inj this]
    cases ks[n % ks.length] <;> rfl
  have akn : ∀ {l : List LV}, (∀ x ∈ l, x.kn = true) → allKn l = true := by
    intro l
    induction l with
    | nil => intro _; rfl
    | cons x l ih => intro h; simp only [allKn, h x (by simp)]; exact ih fun y hy => h y (by simp [hy])
  rcases hd with ⟨lcs, h1, h2⟩ | ⟨base, cs, rfl, h1, h2⟩
  · obtain ⟨news, a1, a2, _⟩ := cut lcs o h2
    exact ⟨news, by simp only [rd, hl, h1, a1], a2⟩
  · obtain ⟨news, a1, a2, a3⟩ := cut cs (o - base) h2
    exact ⟨news, by simp only [rd, hl, LO.cs, (show Nat.ble base o = true by simpa using h1), cond_true, a1, akn a3], a2⟩
theorem more_list (hM : HS ν M snx H nx) {own own' : Bool} {id : Nat} {n : Int} {lx : LV} {t : TypeId} {ks : List CK} {h : Ll} (hg : M.get id = some (.list t ks own' h)) (hn : n = (h.length : Int)) (hx : VS (fs := fs) (ov := ov) ν (.ls own id n) lx) (hk : 0 < ks.length) : (h.length = 0 ∧ more H ks.length lx = some (0, [])) ∨ ∃ m news, h.length = m + 1 ∧ more H ks.length lx = some (m + 1, news) ∧ Rows ks h news := by
  obtain ⟨_, hr, hat, _⟩ := hM.at_ id _ hg
  obtain ⟨n0, ⟨rfl, h3⟩ | ⟨r, o, hν, hv⟩⟩ := hx
  · exact .inl ⟨by omega, rfl⟩
  · cases hm : h.length with
    | zero =>
      refine .inl ⟨rfl, ?_⟩
      have e0 : n.toNat = 0 := by omega
      rcases hv with ⟨_, rfl⟩ | ⟨_, cap, _, rfl⟩ <;> simp [more, e0]
    | succ m =>
      obtain ⟨r', o', lo, a1, a2, a3⟩ := hat.resolve_left (by omega)
      rw [hν] at a1; cases a1
      obtain ⟨news, b1, b2⟩ := rd_list a2 a3 hr hk (by omega)
      rw [hm] at b1
      have e0 : n.toNat = m + 1 := by omega
      refine .inr ⟨m, news, rfl, ?_, b2⟩
      rcases hv with ⟨rfl, rfl⟩ | ⟨_, cap, _, rfl⟩ <;> simp only [more, e0, b1]
theorem gotby_same' (hM : HS ν M snx H nx) {K : KS (stdA fs ov)} {v : SV (stdA fs ov)} {lv : LV} (hv : VS ν v lv) (hK : K v M snx []) : GotBy ν snx H nx K (some ⟨lv, H, nx, []⟩) :=
  ⟨_, ν, v, M, snx, [], rfl, got_same hM hv, hK⟩
theorem appNone_ok (hM : HS ν M snx H nx) {s : SV (stdA fs ov)} {ls : LV} {K : KS (stdA fs ov)} (hs : VS ν s ls) (ha : appOk s = true) (h : K s M snx []) : GotBy ν snx H nx K (appNone H nx ls) := by
  have hs' := hs
  cases s <;> simp only [appOk] at ha <;> try cases ha
  · obtain rfl := hs; exact gotby_same' hM hs' h
  · obtain ⟨r, hr, rfl⟩ := hs
    simp only [appNone, ha, cond_true]
    exact gotby_same' hM hs' h
  · obtain ⟨n0, ⟨rfl, h3⟩ | ⟨r, o, hr, ⟨_, rfl⟩ | ⟨_, c, hc, rfl⟩⟩⟩ := hs
    · exact gotby_same' hM hs' h
    · exact gotby_same' hM hs' h
    · simp only [appNone, (show Nat.ble (Int.toNat _) c = true by simpa using hc), cond_true]
      exact gotby_same' hM hs' h
theorem sAppend_ok (hM : HS ν M snx H nx) {t : TypeId} {s x : SV (stdA fs ov)} {ls lx : LV} {K : KS (stdA fs ov)} (h : sAppend P t s x M snx K) (hs : VS ν s ls) (hx : VS ν x lx) : GotBy ν snx H nx K (evAppend P t ls lx H nx) := by
  unfold sAppend at h
  split at h
  · rename_i e hu
    split at h
    · rename_i i ks hi hks
      cases hc : (Nat.beq ks.length i.size && Nat.blt 0 i.size && Nat.ble i.bytes 140737488 && zeroFits i)
      · rw [hc] at h; exact h.elim
      · rw [hc, cond_true] at h
        simp only [Bool.and_eq_true, beq_iff] at hc
        obtain ⟨⟨⟨c1, c2⟩, c3⟩, c4⟩ := hc
        have c3 : i.bytes ≤ 140737488 := by simpa using c3
        have c20 : 0 < i.size := by simpa using c2
        unfold zeroFits at c4
        split at c4
        · rename_i zv hz
          have ev : ∀ {m : Nat} {news : List LV} {hh : Ll}, more H ks.length lx = some (m + 1, news) → Rows ks hh news → evAppend P t ls lx H nx = appSome H nx e i.size i.bytes (m + 1) news ls := fun m2 m3 => by
            rw [c1] at m2
            simp only [evAppend, hu, hi, hz, nN_eq, c4, c2, Bool.and_self, cond_true, m2, m3.one]
          split at h
          · rename_i own id n
            split at h
            · rename_i t' ks' own' hh hg
              cases hb : (decide (ks' = ks) && appOk s)
              · rw [hb] at h; exact h.elim
              · rw [hb, cond_true] at h
                simp only [Bool.and_eq_true, decide_eq_true_eq] at hb
                obtain ⟨rfl, hb⟩ := hb
                obtain ⟨hn, h⟩ := h
                have hn : n = (hh.length : Int) := hn
                have e9 := more_list hM hg hn hx (by omega)
                subst hn
                rcases e9 with ⟨e0, m2⟩ | ⟨m, news, m1, m2, m3⟩
                · have hz0 : ((hh.length : Nat) : Int) = (0 : Int) := by omega
                  have h : cond (decide (((hh.length : Nat) : Int) = (0 : Int))) (K s M snx []) (sAppNe i e ks' s M snx hh K) := h
                  rw [decide_eq_true hz0, cond_true] at h
                  rw [c1] at m2
                  have e1 : evAppend P t ls lx H nx = appNone H nx ls := by
                    simp only [evAppend, hu, hi, hz, nN_eq, c4, c2, Bool.and_self, cond_true, m2]
                  rw [e1]
                  exact appNone_ok hM hs hb h
                · have hz0 : ((hh.length : Nat) : Int) ≠ (0 : Int) := by omega
                  have h : cond (decide (((hh.length : Nat) : Int) = (0 : Int))) (K s M snx []) (sAppNe i e ks' s M snx hh K) := h
                  rw [decide_eq_false hz0, cond_false] at h
                  rw [ev m2 m3]
                  exact sAppNe_ok hM c1 c3 m1 m3 h hs
            · exact h.elim
          · split at h
            · rename_i hh hmo
              obtain ⟨m, news, m1, m2, m3⟩ := sMore_ok hM hmo hx
              rw [ev m2 m3]
              exact sAppNe_ok hM c1 c3 m1 m3 h hs
            · exact h.elim
        · cases c4
    · exact h.elim
  · exact h.elim
end Go.Rx

set_option linter.unusedSimpArgs false
set_option linter.unusedVariables false
set_option linter.unusedSectionVars false
namespace Go.Rx
open Go
variable {fs : Fs} {ov : Bool} {ν : Nm} {P : Program} {T : Al (SV (stdA fs ov))} {L : Tr LV} {M : SH (stdA fs ov)} {H : Hp} {snx nx : Nat} {W : Nat → Prop}

def GotOp (ν : Nm) (snx : Nat) (H : Hp) (nx : Nat) (K : KS (stdA fs ov)) (x : Option Res) : Prop := ∃ r, x = some r ∧ r.o.nx ≤ r.mx ∧ GotBy ν snx H nx K (some r.o)
/-- The same, where a new name may stand for an old block that has been written. -/
structure GotW (ν : Nm) (snx : Nat) (H : Hp) (nx : Nat) (ν' : Nm) (v : SV (stdA fs ov)) (M' : SH (stdA fs ov)) (snx' : Nat) (wr : List Nat) (r : Out) : Prop where
  lo : Lo snx ν ν'
  nw : ∀ id q o, snx ≤ id → ν' id = some (q, o) → nx ≤ q ∨ ∃ id0 ∈ wr, id0 < snx ∧ ∃ o', ν' id0 = some (q, o')
  up : nx ≤ r.nx
  sup : snx ≤ snx'
  hs : HS ν' M' snx' r.H r.nx
  v : VS ν' v r.v
  wr : ∀ q ∈ r.wr, ∃ id ∈ wr, ∃ o, ν id = some (q, o)
  keep : ∀ q, q < nx → q ∉ r.wr → r.H.get q = H.get q
  has : ∀ q ∈ r.wr, nx ≤ q ∨ ∃ o, H.get q = some o
theorem Got.w {ν' : Nm} {v : SV (stdA fs ov)} {M' : SH (stdA fs ov)} {snx' : Nat} {wr : List Nat} {r : Out} (h : Got ν snx H nx ν' v M' snx' wr r) : GotW ν snx H nx ν' v M' snx' wr r :=
  ⟨h.lo, fun id q o h1 h2 => .inl (h.nw id q o h1 h2), h.up, h.sup, h.hs, h.v, h.wr, h.keep, h.has⟩
def GotOpW (ν : Nm) (snx : Nat) (H : Hp) (nx : Nat) (K : KS (stdA fs ov)) (x : Option Res) : Prop := ∃ (r : Res) (ν' : Nm) (v : SV (stdA fs ov)) (M' : SH (stdA fs ov)) (snx' : Nat) (wr : List Nat), x = some r ∧ r.o.nx ≤ r.mx ∧ GotW ν snx H nx ν' v M' snx' wr r.o ∧ K v M' snx' wr
theorem GotOp.w {K : KS (stdA fs ov)} {x : Option Res} (h : GotOp ν snx H nx K x) : GotOpW ν snx H nx K x := by
  obtain ⟨r, h1, h2, o, ν', v, M', snx', wr, e, h3, h4⟩ := h
  cases e
  exact ⟨r, ν', v, M', snx', wr, h1, h2, h3.w, h4⟩
structure CallSOK (cs : CallS (stdA fs ov)) (call : CallT) : Prop where
  f : ∀ (g : FuncId) (args : List (SV (stdA fs ov))) (M : SH (stdA fs ov)) (snx : Nat) (K : KS (stdA fs ov)), cs (.f g) args M snx K → noY args = true →
    ∀ (ν : Nm) (largs : List LV) (H : Hp) (nx : Nat), VSL ν args largs → HS ν M snx H nx → GotOp ν snx H nx K (call (.f g) largs H nx)
  y : ∀ (g : FuncId) (args : List (SV (stdA fs ov))) (M : SH (stdA fs ov)) (snx : Nat) (K : KS (stdA fs ov)), cs (.f g) args M snx K → noY args = false →
    ∀ (ν : Nm) (largs : List LV) (H : Hp) (nx : Nat), VSL ν args largs → HS ν M snx H nx → GotOpW ν snx H nx K (call (.f g) largs H nx)
  r : ∀ (id : Nat) (args : List (SV (stdA fs ov))) (M : SH (stdA fs ov)) (snx : Nat) (K : KS (stdA fs ov)), cs (.r id) args M snx K →
    ∀ (ν : Nm) (largs : List LV) (H : Hp) (nx r : Nat), VSL ν args largs → HS ν M snx H nx → ν id = some (r, 0) → GotOpW ν snx H nx K (call (.r r) largs H nx)
theorem gotop_of {K : KS (stdA fs ov)} {x : Option Out} (h : GotBy ν snx H nx K x) : GotOp ν snx H nx K (res x) := by
  obtain ⟨o, ν', v, M', snx', wr, rfl, hg, hk⟩ := h
  exact ⟨⟨o, o.nx⟩, rfl, Nat.le_refl _, o, ν', v, M', snx', wr, rfl, hg, hk⟩
theorem gotby_same (hM : HS ν M snx H nx) {K : KS (stdA fs ov)} {v : SV (stdA fs ov)} {lv : LV} (hv : VS ν v lv) (hK : K v M snx []) : GotBy ν snx H nx K (some ⟨lv, H, nx, []⟩) :=
  ⟨_, ν, v, M, snx, [], rfl, got_same hM hv, hK⟩
theorem sBuiltin_ok (hM : HS ν M snx H nx) {b : Builtin} {ts : List TypeId} {args : List (SV (stdA fs ov))} {la : List LV} {K : KS (stdA fs ov)} (h : sBuiltin P b ts args M snx K) (ha : VSL ν args la) : GotBy ν snx H nx K (evBuiltin P b ts la H nx) := by
  unfold sBuiltin at h
  split at h
  · rename_i t x
    obtain ⟨lx, r, rfl, hx, hr⟩ := ha
    obtain rfl := hr
    split at h
    · rename_i e hu
      obtain rfl := hx
      simp only [evBuiltin, hu]
      exact gotby_same hM (v := .i .i64 (0 : Int)) (lv := .i .i64 0) rfl h
    · rename_i e id off len cap hu
      obtain ⟨r, hr, rfl⟩ := hx
      simp only [evBuiltin, hu]
      exact gotby_same hM (v := .i .i64 (len : Int)) (lv := .i .i64 (.ofNat len)) rfl h
    · rename_i e own id n hu
      obtain ⟨hn, ⟨rfl, h3⟩ | ⟨r, o, hr, ⟨rfl, rfl⟩ | ⟨_, c, hc, rfl⟩⟩⟩ := hx
      · simp only [evBuiltin, hu]
        have h3 : n = (0 : Int) := h3
        subst h3
        exact gotby_same hM (v := .i .i64 (0 : Int)) (lv := .i .i64 0) rfl h
      · simp only [evBuiltin, hu]
        exact gotby_same hM (lv := .i .i64 (.ofNat (Int.toNat n))) (by show LV.i _ _ = LV.i _ _; rw [show Int.ofNat (Int.toNat n) = n from Int.toNat_of_nonneg hn]) h
      · simp only [evBuiltin, hu]
        exact gotby_same hM (lv := .i .i64 (.ofNat (Int.toNat n))) (by show LV.i _ _ = LV.i _ _; rw [show Int.ofNat (Int.toNat n) = n from Int.toNat_of_nonneg hn]) h
    · rename_i n e hu
      have e : evBuiltin P .len [t] [lx] H nx = some ⟨.i .i64 (.ofNat n), H, nx, []⟩ := by
        simp only [evBuiltin, hu]
      rw [e]
      exact gotby_same hM (v := .i .i64 (n : Int)) (lv := .i .i64 (.ofNat n)) rfl h
    · exact h.elim
  · rename_i k x l
    obtain ⟨lx, r, rfl, hx, hr⟩ := ha
    obtain rfl := hx
    obtain ⟨v, h1, h2⟩ := opt_ok h
    obtain ⟨lv, h3, h4⟩ := foldS_ok h1 hr
    simp only [evBuiltin, h3]
    exact gotby_same hM h4 h2
  · rename_i k x l
    obtain ⟨lx, r, rfl, hx, hr⟩ := ha
    obtain rfl := hx
    obtain ⟨v, h1, h2⟩ := opt_ok h
    obtain ⟨lv, h3, h4⟩ := foldS_ok h1 hr
    simp only [evBuiltin, h3]
    exact gotby_same hM h4 h2
  · rename_i t u s x
    obtain ⟨ls, r, rfl, hs, lx, r2, rfl, hx, hr⟩ := ha
    obtain rfl := hr
    cases hb : Nat.beq t u
    · rw [hb] at h; exact h.elim
    · rw [hb, cond_true] at h
      simp only [evBuiltin, hb, cond_true]
      exact sAppend_ok hM h hs hx
  · exact h.elim
theorem sBuildSl_ok (hF : FS ν T L) (hM : HS ν M snx H nx) {t : TypeId} {len : Nat} {ps : Array (Nat × Operand)} {K : KS (stdA fs ov)} (h : sBuildSl P T M snx t len ps K) : GotBy ν snx H nx K (evBuildSl P L H nx t len ps) := by
  unfold sBuildSl at h
  unfold evBuildSl
  split at h
  · rename_i e hu
    simp only [hu]
    split at h
    · rename_i z n l hz hs hl
      obtain ⟨lz, h1, h2⟩ := sZero_ok (ν := ν) hz
      obtain ⟨ll, h3, h4⟩ := sPartsO_ok hF hl
      simp only [h1, hs, h3, ← h2.cells.length] at h ⊢
      cases hc : (Nat.beq lz.cells.length n && Nat.blt 0 n && Nat.ble (len * n) 16777216)
      · simp only [hc, cond_false] at h <;> exact h.elim
      · simp only [hc, cond_true] at h ⊢
        cases hf : sFill (fun i => some (i * n, n)) (sRep len z.cells) l with
        | none => simp only [hf] at h <;> exact h.elim
        | some cs =>
          simp only [hf] at h
          obtain ⟨lr, h5, h6⟩ := sFill_ok hf h4 (sRep_ok h2.cells len)
          simp only [h5]
          exact sFresh_ok hM h (fun ν' hle hn H' hH => ⟨nx, lr, hn, hH, h6.mono hle⟩) (lv := .sl nx 0 len len) (fun ν' hn => ⟨nx, hn, rfl⟩) rfl
    · exact h.elim
  · exact h.elim
theorem sCallee_ok {cs : CallS (stdA fs ov)} {call : CallT} (hc : CallSOK cs call) (hF : FS ν T L) (hM : HS ν M snx H nx) {c : Call} {K : KS (stdA fs ov)} (h : sCallee P (noR cs) T M snx c K) : GotOp ν snx H nx K (evCallee P call L H nx c) := by
  unfold sCallee at h
  unfold evCallee
  split at h
  · rename_i f hcal
    simp only [hcal]
    split at h
    · rename_i args g a cap ha hf
      obtain ⟨la, h1, h2⟩ := sOs_ok hF ha
      obtain ⟨lf, h3, h4⟩ := sO_ok hF hf
      obtain ⟨a', c', rfl, h5, h6⟩ := h4
      simp only [h1, h3, callAt, ap_eq]
      cases hy : noY (a ++ (args ++ cap)) with
      | false => rw [hy] at h; exact h.elim
      | true =>
        rw [hy] at h
        exact hc.f g _ M snx K h hy ν _ H nx (h5.append (h2.append h6)) hM
    · exact h.elim
    · exact h.elim
  · rename_i b hcal
    simp only [hcal]
    split at h
    · rename_i args ha
      obtain ⟨la, h1, h2⟩ := sOs_ok hF ha
      simp only [h1]
      exact gotop_of (sBuiltin_ok hM h h2)
    · exact h.elim
  · exact h.elim
theorem sCallee_okW {cs : CallS (stdA fs ov)} {call : CallT} (hc : CallSOK cs call) (hF : FS ν T L) (hM : HS ν M snx H nx) {c : Call} {K : KS (stdA fs ov)} (h : sCallee P cs T M snx c K) : GotOpW ν snx H nx K (evCallee P call L H nx c) := by
  unfold sCallee at h
  unfold evCallee
  split at h
  · rename_i f hcal
    simp only [hcal]
    split at h
    · rename_i args g a cap ha hf
      obtain ⟨la, h1, h2⟩ := sOs_ok hF ha
      obtain ⟨lf, h3, h4⟩ := sO_ok hF hf
      obtain ⟨a', c', rfl, h5, h6⟩ := h4
      simp only [h1, h3, callAt, ap_eq]
      cases hy : noY (a ++ (args ++ cap)) with
      | false => rw [hy] at h; exact h.elim
      | true =>
        rw [hy] at h
        exact (hc.f g _ M snx K h hy ν _ H nx (h5.append (h2.append h6)) hM).w
    · rename_i args id ha hf
      obtain ⟨la, h1, h2⟩ := sOs_ok hF ha
      obtain ⟨lf, h3, h4⟩ := sO_ok hF hf
      obtain ⟨r, hr, rfl⟩ := h4
      simp only [h1, h3, callAt]
      exact hc.r id _ M snx K h ν _ H nx r h2 hM hr
    · exact h.elim
  · rename_i b hcal
    simp only [hcal]
    split at h
    · rename_i args ha
      obtain ⟨la, h1, h2⟩ := sOs_ok hF ha
      simp only [h1]
      exact (gotop_of (sBuiltin_ok hM h h2)).w
    · exact h.elim
  · exact h.elim
theorem sOp_ok {cs : CallS (stdA fs ov)} {call : CallT} (hc : CallSOK cs call) (hF : FS ν T L) (hM : HS ν M snx H nx) {op : Op} {K : KS (stdA fs ov)} (h : sOp P cs T M snx op K) : GotOpW ν snx H nx K (evOp P call L H nx op) := by
  have pure : ∀ {op : Op}, sPure P T op (fun v => K v M snx []) → evOp P call L H nx op = res (evPureO P L H nx op) → GotOpW ν snx H nx K (evOp P call L H nx op) := fun {op} hp he => by
    obtain ⟨v, lv, h1, h2, h3⟩ := sPure_ok hF hp
    rw [he]
    refine (gotop_of ?_).w
    simp only [evPureO, h1]
    exact gotby_same hM h2 h3
  cases op
  case load t x =>
    obtain ⟨v, lv, h1, h2, h3⟩ := sLoad_val hF (fun id so _ hg => (hM.at_ id so hg).2) h
    exact (gotop_of (x := evLoad P L H nx t x) (h1 ▸ gotby_same hM h2 h3)).w
  case store t x y => exact (gotop_of (sStore_ok hF hM h)).w
  case alloc t =>
    simp only [sOp] at h
    split at h
    · rename_i z hz
      obtain ⟨lz, h1, h2⟩ := sZero_ok (ν := ν) hz
      simp only [evOp, evAlloc, h1]
      exact (gotop_of (sFresh_ok hM h (fun ν' hle hn H' hH => ⟨nx, lz.cells, hn, hH, h2.cells.mono hle⟩) (lv := .p nx 0) (fun ν' hn => ⟨nx, hn, rfl⟩) rfl)).w
    · exact h.elim
  case box t x =>
    simp only [sOp] at h
    split at h
    · rename_i z hz
      obtain ⟨lz, h1, h2⟩ := sO_ok hF hz
      simp only [evOp, evBox, h1]
      exact (gotop_of (sFresh_ok hM h (fun ν' hle hn H' hH => ⟨nx, lz.cells, hn, hH, h2.cells.mono hle⟩) (lv := .p nx 0) (fun ν' hn => ⟨nx, hn, rfl⟩) rfl)).w
    · exact h.elim
  case buildSlice t len ps => exact (gotop_of (sBuildSl_ok hF hM h)).w
  case call c => exact sCallee_okW hc hF hM h
  case makeSlice t l c => exact absurd h (by simp [sOp, sPure])
  all_goals exact pure h rfl

/-! ### Regions -/
theorem sPut_ok (hF : FS ν T L) {N : Nat} {dst : Option Tmp} {v : SV (stdA fs ov)} {lv : LV} {K : Al (SV (stdA fs ov)) → Prop} (h : sPut T N dst v K) (hv : VS ν v lv) : ∃ T' L', putT L N dst lv = some L' ∧ FS ν T' L' ∧ K T' := by
  cases dst with
  | none => exact ⟨T, L, rfl, hF, h⟩
  | some d =>
    simp only [sPut] at h
    cases hb : Nat.blt d N
    · simp only [hb, cond_false] at h <;> exact h.elim
    · simp only [hb, cond_true, Al.force_eq] at h
      refine ⟨_, L.set d (some lv), by simp [putT, hb, Tr.force_eq], ⟨fun t u hu => ?_⟩, h⟩
      rw [Al.get_set] at hu; rw [Tr.get_set]
      by_cases e : t = d
      · rw [if_pos e] at hu ⊢; cases hu; exact ⟨lv, rfl, hv⟩
      · rw [if_neg e] at hu ⊢; exact hF.at_ t u hu
theorem fs_know (hF : FS ν T L) {d : Nat} {x : Bool} (hx : T.get d = some (.b x)) : FS ν (T.set d (some (.b x))) L := ⟨fun t u hu => by
  rw [Al.get_set] at hu
  by_cases e : t = d
  · rw [if_pos e] at hu; cases hu; subst e; exact hF.at_ _ _ hx
  · rw [if_neg e] at hu; exact hF.at_ t u hu⟩
theorem sWant_ok (hF : FS ν T L) {ops : Array Oper} {o : Oper} {yes no : Al (SV (stdA fs ov)) → Prop} (h : sWant ops T o yes no) :
    (∃ T', want ops L o = some true ∧ FS ν T' L ∧ yes T') ∨ (∃ T', want ops L o = some false ∧ FS ν T' L ∧ no T') := by
  unfold sWant at h
  unfold want
  cases hg : o.guard with
  | none => simp only [hg] at h; exact .inl ⟨T, rfl, hF, h⟩
  | some q =>
    obtain ⟨j, w⟩ := q
    simp only [hg] at h ⊢
    cases hd : (ops[j]?).bind (·.dst) with
    | none => simp only [hd] at h; exact .inr ⟨T, rfl, hF, h⟩
    | some d =>
      simp only [hd] at h ⊢
      split at h
      · rename_i x hx
        obtain ⟨lv, h1, h2⟩ := hF.at_ d _ hx
        obtain rfl := h2
        simp only [h1]
        have h' : cond x _ _ := h
        cases x
        · simp only [Al.force_eq, cond_false] at h'
          cases w
          · exact .inl ⟨_, rfl, fs_know hF hx, h'⟩
          · exact .inr ⟨_, rfl, fs_know hF hx, h'⟩
        · simp only [Al.force_eq, cond_true] at h'
          cases w
          · exact .inr ⟨_, rfl, fs_know hF hx, h'⟩
          · exact .inl ⟨_, rfl, fs_know hF hx, h'⟩
      · rename_i hx
        obtain ⟨lv, h1, h2⟩ := hF.at_ d _ hx
        obtain ⟨l', rfl, hl⟩ := h2
        obtain rfl := hl
        exact .inr ⟨T, by simp only [h1], hF, h⟩
      · exact h.elim
structure Sim (W : Nat → Prop) (ν : Nm) (s : SS (stdA fs ov)) (S : Rx.S) : Prop where
  N : S.N = s.N
  T : FS ν s.T S.T
  H : HS ν s.H s.nx S.H S.nx
  mx : S.nx ≤ S.mx
  wr : ∀ q ∈ S.wr, W q ∨ ∃ id ∈ s.wr, ∃ o, ν id = some (q, o)
  wup : ∀ q, S.nx ≤ q → W q
/-- The marks of ranges over functions: new, named by nothing. -/
def DfOK (ν' : Nm) (S S' : Rx.S) : Prop := ∃ ds, S'.df = ds ++ S.df ∧ ds.Nodup ∧ ∀ d ∈ ds, S.nx ≤ d ∧ d < S'.nx ∧ S'.H.get d = some .dfr ∧ ∀ id o, ν' id ≠ some (d, o)
theorem DfOK.of {ν' : Nm} {S S' : Rx.S} (h : S'.df = S.df) : DfOK ν' S S' := ⟨[], h, List.nodup_nil, fun d hd => by cases hd⟩
theorem DfOK.then {ν1 ν2 : Nm} {S S1 S2 : Rx.S} (h : DfOK ν1 S S1) (h' : DfOK ν2 S1 S2) (u1 : S.nx ≤ S1.nx) (u2 : S1.nx ≤ S2.nx)
    (hk : ∀ d, d < S1.nx → S.nx ≤ d → (∀ id o, ν1 id ≠ some (d, o)) → (∀ id o, ν2 id ≠ some (d, o)) ∧ S2.H.get d = S1.H.get d) : DfOK ν2 S S2 := by
  obtain ⟨d1, a1, a2, a3⟩ := h
  obtain ⟨d2, b1, b2, b3⟩ := h'
  refine ⟨d2 ++ d1, by rw [b1, a1, List.append_assoc], List.nodup_append.2 ⟨b2, a2, fun x hx y hy e => ?_⟩, fun d hd => ?_⟩
  · subst e; have := (b3 x hx).1; have := (a3 x hy).2.1; omega
  · rcases List.mem_append.1 hd with hd | hd
    · obtain ⟨c1, c2, c3, c4⟩ := b3 d hd
      exact ⟨Nat.le_trans u1 c1, c2, c3, c4⟩
    · obtain ⟨c1, c2, c3, c4⟩ := a3 d hd
      obtain ⟨e1, e2⟩ := hk d c2 c1 c4
      exact ⟨c1, Nat.lt_of_lt_of_le c2 u2, by rw [e2]; exact c3, e1⟩
/-- The same, from other states and under other names. -/
theorem DfOK.re {ν1 ν2 : Nm} {S S' : Rx.S} (h : DfOK ν1 S S') (hn : ∀ d id o, S.nx ≤ d → ν2 id = some (d, o) → ∃ id' o', ν1 id' = some (d, o')) : DfOK ν2 S S' := by
  obtain ⟨ds, a1, a2, a3⟩ := h
  exact ⟨ds, a1, a2, fun d hd => ⟨(a3 d hd).1, (a3 d hd).2.1, (a3 d hd).2.2.1, fun id o e => let ⟨id', o', e'⟩ := hn d id o (a3 d hd).1 e; (a3 d hd).2.2.2 id' o' e'⟩⟩
/-- From one state to a later one. -/
structure XT (ν : Nm) (s : SS (stdA fs ov)) (S : Rx.S) (ν' : Nm) (s' : SS (stdA fs ov)) (S' : Rx.S) : Prop where
  lo : Lo s.nx ν ν'
  nw : ∀ id q o, s.nx ≤ id → ν' id = some (q, o) → S.nx ≤ q ∨ ∃ id0 ∈ s'.wr, id0 < s.nx ∧ ∃ o', ν' id0 = some (q, o')
  up : S.nx ≤ S'.nx
  sup : s.nx ≤ s'.nx
  wr : ∀ q ∈ S.wr, q ∈ S'.wr
  swr : ∀ id ∈ s.wr, id ∈ s'.wr
  keepS : ∀ q, q < S.nx → (∀ id ∈ s'.wr, ∀ o, ν' id ≠ some (q, o)) → S'.H.get q = S.H.get q
  keep : ∀ q, q < S.nx → q ∉ S'.wr → S'.H.get q = S.H.get q
  has : ∀ q ∈ S'.wr, q ∈ S.wr ∨ S.nx ≤ q ∨ ∃ o, S.H.get q = some o
  df : DfOK ν' S S'
theorem XT.refl {s : SS (stdA fs ov)} {S : Rx.S} (hM : HS ν s.H s.nx S.H S.nx) : XT ν s S ν s S := ⟨fun _ _ => rfl, fun id q o h1 h2 => by have := (hM.lt id q o h2).2; omega, Nat.le_refl _, Nat.le_refl _, fun _ h => h, fun _ h => h, fun _ _ _ => rfl, fun _ _ _ => rfl, fun q hq => .inl hq, .of rfl⟩
theorem XT.trans {ν1 ν2 : Nm} {s s1 s2 : SS (stdA fs ov)} {S S1 S2 : Rx.S} (h : XT ν s S ν1 s1 S1) (hs : Sim W ν1 s1 S1) (h' : XT ν1 s1 S1 ν2 s2 S2) : XT ν s S ν2 s2 S2 := by
  refine ⟨fun id hid => ?_, fun id q o h1 h2 => ?_, Nat.le_trans h.up h'.up, Nat.le_trans h.sup h'.sup, fun q hq => h'.wr q (h.wr q hq), fun q hq => h'.swr q (h.swr q hq), fun q hq hn => ?_, fun q hq hn => ?_, fun q hq => ?_, h.df.then h'.df h.up h'.up fun d hd hd0 hn => ?_⟩
  · rw [h'.lo id (Nat.lt_of_lt_of_le hid h.sup), h.lo id hid]
  · have up1 : (S.nx ≤ q ∨ ∃ id0 ∈ s1.wr, id0 < s.nx ∧ ∃ o', ν1 id0 = some (q, o')) → S.nx ≤ q ∨ ∃ id0 ∈ s2.wr, id0 < s.nx ∧ ∃ o', ν2 id0 = some (q, o') := fun h3 => h3.imp_right fun ⟨id0, a1, a2, o', a3⟩ => ⟨id0, h'.swr id0 a1, a2, o', by rw [h'.lo id0 (Nat.lt_of_lt_of_le a2 h.sup)]; exact a3⟩
    by_cases hlt : id < s1.nx
    · rw [h'.lo id hlt] at h2; exact up1 (h.nw id q o h1 h2)
    · rcases h'.nw id q o (by omega) h2 with h3 | ⟨id0, a1, a2, o', a3⟩
      · exact .inl (Nat.le_trans h.up h3)
      · by_cases h0 : id0 < s.nx
        · exact .inr ⟨id0, a1, h0, o', a3⟩
        · rw [h'.lo id0 a2] at a3
          exact up1 (h.nw id0 q o' (by omega) a3)
  · rw [h'.keepS q (Nat.lt_of_lt_of_le hq h.up) hn, h.keepS q hq fun id hid o he => ?_]
    have hlt := (hs.H.lt id q o he).2
    exact hn id (h'.swr id hid) o (by rw [h'.lo id hlt]; exact he)
  · rw [h'.keep q (Nat.lt_of_lt_of_le hq h.up) hn, h.keep q hq fun hq' => hn (h'.wr q hq')]
  · rcases h'.has q hq with h1 | h1 | ⟨o, h1⟩
    · exact h.has q h1
    · exact .inr (.inl (Nat.le_trans h.up h1))
    · by_cases hlt : S.nx ≤ q
      · exact .inr (.inl hlt)
      · by_cases hw : q ∈ S1.wr
        · exact h.has q hw
        · exact .inr (.inr ⟨o, by rw [← h.keep q (by omega) hw]; exact h1⟩)
  · have hu : ∀ id o, ν2 id ≠ some (d, o) := fun id o e => by
      by_cases hlt : id < s1.nx
      · rw [h'.lo id hlt] at e; exact hn id o e
      · rcases h'.nw id d o (by omega) e with h3 | ⟨id0, a1, a2, o', a3⟩
        · omega
        · rw [h'.lo id0 a2] at a3; exact hn id0 o' a3
    exact ⟨hu, h'.keepS d hd fun id _ o => hu id o⟩
def GoS (W : Nat → Prop) (ν : Nm) (s : SS (stdA fs ov)) (S : Rx.S) (K : SS (stdA fs ov) → Prop) (x : Option Rx.S) : Prop := ∃ S' ν' s', x = some S' ∧ XT ν s S ν' s' S' ∧ Sim W ν' s' S' ∧ K s'
theorem Lo.nle {ν' : Nm} (hM : HS ν M snx H nx) (h : Lo snx ν ν') : NLe ν ν' := hM.le h
theorem sOps_ok {cs : CallS (stdA fs ov)} {call : CallT} (hc : CallSOK cs call) {ops : Array Oper} : ∀ {l : List Oper} {ν : Nm} {s : SS (stdA fs ov)} {S : Rx.S} {K : SS (stdA fs ov) → Prop}, sOps P cs ops l s K → Sim W ν s S → GoS W ν s S K (evOps P call ops l S)
  | [], ν, s, S, K, h, hs => ⟨S, ν, s, rfl, XT.refl hs.H, hs, h⟩
  | o :: rest, ν, ⟨T, N, M, snx, wr⟩, ⟨L, N', H, nx, lw, df, mx⟩, K, h, hs => by
    obtain rfl : N' = N := hs.N
    simp only [sOps] at h
    rcases sWant_ok hs.T h with ⟨T', hw, hF, h⟩ | ⟨T', hw, hF, h⟩
    · obtain ⟨r, ν', v, M', snx', wr', he, hmx, hg, h⟩ := sOp_ok hc hF hs.H h
      obtain ⟨⟨lv, H', nx', lw'⟩, m⟩ := r
      have hle := hs.H.le hg.lo
      have hF' : FS ν' T' L := ⟨fun t u hu => let ⟨lv, a, b⟩ := hF.at_ t u hu; ⟨lv, a, b.mono hle⟩⟩
      obtain ⟨T2, L2, hp, hF2, h⟩ := sPut_ok hF' h hg.v
      have hup : nx ≤ nx' := hg.up
      have hmx : nx' ≤ m := hmx
      have b1 : Nat.ble nx nx' = true := by simpa using hup
      have b2 : Nat.ble nx' m = true := by simpa using hmx
      have hsim : Sim W ν' ⟨T2, N', M', snx', addW wr' wr⟩ ⟨L2, N', H', nx', addW lw' lw, df, more' mx m⟩ := by
        refine ⟨rfl, hF2, hg.hs, Nat.le_trans hmx (more'_le _ _).2, fun q hq => ?_, fun q hq => hs.wup q (Nat.le_trans hup hq)⟩
        rcases mem_addW.1 hq with hq | hq
        · obtain ⟨id, h1, o, h2⟩ := hg.wr q hq
          exact .inr ⟨id, mem_addW.2 (.inl h1), o, hle _ _ h2⟩
        · rcases hs.wr q hq with hW | ⟨id, h1, o, h2⟩
          · exact .inl hW
          · exact .inr ⟨id, mem_addW.2 (.inr h1), o, hle _ _ h2⟩
      have hxt : XT ν ⟨T, N', M, snx, wr⟩ ⟨L, N', H, nx, lw, df, mx⟩ ν' ⟨T2, N', M', snx', addW wr' wr⟩ ⟨L2, N', H', nx', addW lw' lw, df, more' mx m⟩ :=
        ⟨hg.lo, fun id q o h1 h2 => (hg.nw id q o h1 h2).imp_right fun ⟨id0, a, b⟩ => ⟨id0, mem_addW.2 (.inl a), b⟩, hup, hg.sup, fun q hq => mem_addW.2 (.inr hq), fun id hid => mem_addW.2 (.inr hid), fun q hq hn => hg.keep q hq fun hq' => (by
          obtain ⟨id, h1, o, h2⟩ := hg.wr q hq'
          exact hn id (mem_addW.2 (.inl h1)) o (hle _ _ h2)), fun q hq hn => hg.keep q hq fun hq' => hn (mem_addW.2 (.inl hq')), fun q hq => (mem_addW.1 hq).elim (fun h => .inr (hg.has q h)) .inl, .of rfl⟩
      obtain ⟨S', ν2, s2, h1, h2, h3, h4⟩ := sOps_ok hc h hsim
      refine ⟨S', ν2, s2, ?_, hxt.trans hsim h2, h3, h4⟩
      simp only [evOps, hw, he, b1, b2, Bool.and_true, cond_true, hp, nN_eq]
      exact (match_self (addW lw' lw) fun w => evOps P call ops rest ⟨L2, N', H', nx', w, df, more' mx m⟩).trans h1
    · obtain ⟨T2, L2, hp, hF2, h⟩ := sPut_ok hF h (show VS ν (.tup []) (.tup []) from ⟨[], rfl, rfl⟩)
      have hsim : Sim W ν ⟨T2, N', M, snx, wr⟩ ⟨L2, N', H, nx, lw, df, mx⟩ := ⟨rfl, hF2, hs.H, hs.mx, hs.wr, hs.wup⟩
      obtain ⟨S', ν2, s2, h1, h2, h3, h4⟩ := sOps_ok hc h hsim
      refine ⟨S', ν2, s2, ?_, ⟨h2.lo, h2.nw, h2.up, h2.sup, h2.wr, h2.swr, h2.keepS, h2.keep, h2.has, h2.df⟩, h3, h4⟩
      simp only [evOps, hw, hp]
      exact h1
end Go.Rx

set_option linter.unusedSimpArgs false
set_option linter.unusedVariables false
set_option linter.unusedSectionVars false
namespace Go.Rx
open Go
variable {fs : Fs} {ov : Bool} {ν : Nm} {P : Program} {T : Al (SV (stdA fs ov))} {L : Tr LV} {M : SH (stdA fs ov)} {H : Hp} {snx nx : Nat}

theorem sub_bits {a m : Nat} (h : Nat.beq (Nat.land a m) a = true) : ∀ i, a.testBit i = true → m.testBit i = true := fun i hi => by
  have e : a &&& m = a := (beq_iff _ _).1 h
  rw [← e, Nat.testBit_and, Bool.and_eq_true] at hi
  exact hi.2
theorem or_bits {a k i : Nat} : (Nat.lor a (Nat.pow 2 k)).testBit i = true ↔ a.testBit i = true ∨ i = k := by
  show (a ||| 2 ^ k).testBit i = true ↔ _
  rw [Nat.testBit_or, Nat.testBit_two_pow, Bool.or_eq_true, decide_eq_true_eq]
  exact ⟨fun h => h.elim .inl fun e => .inr e.symm, fun h => h.elim .inl fun e => .inr e.symm⟩
abbrev tops : Nat → Bool := fun _ => true
theorem heapOf_cons (S : Nat → Bool) (H : Hp) (k : Nat) (D : Del) (ds : List (Nat × Del)) : heapOf S H ((k, D) :: ds) = if S k = true then applyD (heapOf S H ds) D else heapOf S H ds := by
  simp only [heapOf]; cases S k <;> rfl
theorem heap_sub {S : Nat → Bool} : ∀ {ds : List (Nat × Del)}, (∀ i D, (i, D) ∈ ds → S i = true) → heapOf S H ds = heapOf tops H ds
  | [], _ => rfl
  | (k, D) :: ds, h => by
    rw [heapOf_cons, heapOf_cons, if_pos (h k D (by simp)), if_pos rfl, heap_sub fun i D' hi => h i D' (by simp [hi])]
theorem applyD_ne {q : Nat} : ∀ {D : Del} {H : Hp}, (∀ x ∈ D, x.1 ≠ q) → (applyD H D).get q = H.get q
  | [], H, _ => rfl
  | (i, o) :: D, H, h => by
    rw [applyD_cons, applyD_ne fun x hx => h x (by simp [hx]), Tr.get_set_ne _ _ fun e => h (i, o) (by simp) e.symm]
theorem heap_old {S : Nat → Bool} {q : Nat} : ∀ {ds : List (Nat × Del)}, (∀ i D, (i, D) ∈ ds → S i = true ∨ ∀ x ∈ D, x.1 ≠ q) → (heapOf S H ds).get q = (heapOf tops H ds).get q
  | [], _ => rfl
  | (k, D) :: ds, h => by
    have ih := heap_old fun i D' hi => h i D' (List.mem_cons_of_mem _ hi)
    rw [heapOf_cons, heapOf_cons, if_pos (show tops k = true from rfl)]
    rcases h k D (by simp) with h1 | h1
    · rw [if_pos h1]
      have key : ∀ (D : Del) (A B : Hp), A.get q = B.get q → (applyD A D).get q = (applyD B D).get q := by
        intro D
        induction D with
        | nil => exact fun A B h => h
        | cons x D ih =>
          intro A B hAB
          rw [applyD_cons, applyD_cons]
          refine ih _ _ ?_
          rw [Tr.get_set, Tr.get_set, hAB]
      exact key D _ _ ih
    · rw [applyD_ne h1]
      split
      · rw [applyD_ne h1]; exact ih
      · exact ih
theorem OS.same {H' : Hp} {id : Nat} {so : SO (stdA fs ov)} (hO : OS ν H id so) (hk : ∀ r o lo, ν id = some (r, o) → H.get r = some lo → H'.get r = some lo) : OS ν H' id so := hO.sub (fun _ _ h => h) rfl hk
theorem HS.same {H' : Hp} {nx' : Nat} (hM : HS ν M snx H nx) (hk : ∀ r, r < nx → H'.get r = H.get r) (hn : nx ≤ nx') : HS ν M snx H' nx' :=
  ⟨fun id so h => ⟨(hM.at_ id so h).1, (hM.at_ id so h).2.same fun r o lo h1 h2 => by rw [hk r (hM.lt id r o h1).1]; exact h2⟩, fun id r o h => ⟨Nat.lt_of_lt_of_le (hM.lt id r o h).1 hn, (hM.lt id r o h).2⟩, hM.inj⟩
/-- What an entry tells of the blocks that the operation has written, changed, seen. -/
def WOK (ν : Nm) (w : Option (Option Nat)) (q : Nat) : Prop := w = some none ∨ ∃ id o, w = some (some id) ∧ ν id = some (q, o)
def LOK (ν : Nm) (l : Option (Option Nat)) (H : Hp) : Prop := l = some none ∨ ∃ id, l = some (some id) ∧ ∀ q lo, H.get q = some lo → ∃ o, ν id = some (q, o)
def EOK (ν : Nm) (snx nx : Nat) (e : DE) (D : Del) : Prop := ∃ a b, b ≤ nx ∧ e.hi ≤ snx ∧ (e.lo = e.hi → b ≤ a) ∧ (∀ id r o, ν id = some (r, o) → a ≤ r → r < b → e.lo ≤ id ∧ id < e.hi) ∧ ∀ x ∈ D, (a ≤ x.1 ∧ x.1 < b) ∨ WOK ν e.wr x.1
theorem WOK.mono {ν ν' : Nm} (h : NLe ν ν') {w : Option (Option Nat)} {q : Nat} (hw : WOK ν w q) : WOK ν' w q := hw.imp_right fun ⟨id, o, a, b⟩ => ⟨id, o, a, h _ _ b⟩
theorem LOK.mono {ν ν' : Nm} (h : NLe ν ν') {w : Option (Option Nat)} {H : Hp} (hw : LOK ν w H) : LOK ν' w H := hw.imp_right fun ⟨id, a, b⟩ => ⟨id, a, fun q lo hq => let ⟨o, c⟩ := b q lo hq; ⟨o, h _ _ c⟩⟩
theorem EOK.mono {ν ν' : Nm} {snx snx' nx nx' : Nat} (h : NLe ν ν') (hlo : Lo snx ν ν') (hn : ∀ id q o, snx ≤ id → ν' id = some (q, o) → nx ≤ q) (h1 : snx ≤ snx') (h2 : nx ≤ nx') {e : DE} {D : Del} (he : EOK ν snx nx e D) : EOK ν' snx' nx' e D := by
  obtain ⟨a, b, c1, c2, c3, c4, c5⟩ := he
  refine ⟨a, b, by omega, by omega, c3, fun id r o hr h3 h4 => ?_, fun x hx => (c5 x hx).imp_right fun h' => h'.mono h⟩
  by_cases hid : id < snx
  · rw [hlo id hid] at hr; exact c4 id r o hr h3 h4
  · have := hn id r o (by omega) hr; omega
/-- What holds half way through a region that draws its order. -/
structure Half (W : Nat → Prop) (ν₀ : Nm) (snx₀ nx₀ : Nat) (H₀ : Hp) (lw₀ wr₀ : List Nat) (ν : Nm) (M : SH (stdA fs ov)) (snx nx : Nat) (wr lw : List Nat) (es : List DE) (g : Log) : Prop where
  top : HS ν M snx (heapOf tops H₀ g.ds) nx
  ent : ∀ i D, (i, D) ∈ g.ds → ∃ e ∈ es, e.k = i ∧ EOK ν snx nx e D
  hsb : ∀ i Hi, (i, Hi) ∈ g.hs → ∃ e ∈ es, e.k = i ∧ LOK ν e.lk Hi
  fsb : ∀ i fo, (i, fo) ∈ g.fs → ∃ e ∈ es, e.k = i ∧ ∀ q ∈ fo, WOK ν e.wr q
  lo : Lo snx₀ ν₀ ν
  nw : ∀ id q o, snx₀ ≤ id → ν id = some (q, o) → nx₀ ≤ q
  up : nx₀ ≤ nx
  sup : snx₀ ≤ snx
  wrs : ∀ q ∈ lw, W q ∨ ∃ id ∈ wr, ∃ o, ν id = some (q, o)
  mono : ∀ q ∈ lw₀, q ∈ lw
  keep : ∀ q, q < nx₀ → q ∉ lw → (heapOf tops H₀ g.ds).get q = H₀.get q
  swr : ∀ id ∈ wr₀, id ∈ wr
  keepS : ∀ q, q < nx₀ → (∀ id ∈ wr, ∀ o, ν id ≠ some (q, o)) → (heapOf tops H₀ g.ds).get q = H₀.get q
  has : ∀ q ∈ lw, q ∈ lw₀ ∨ nx₀ ≤ q ∨ ∃ o, H₀.get q = some o
  lt0 : ∀ id r o, ν₀ id = some (r, o) → r < nx₀ ∧ id < snx₀
theorem nsees_ok {m : Nat} {H : Hp} : ∀ {l : List (Nat × List Nat)}, (∀ i fo, (i, fo) ∈ l → m.testBit i = true ∨ seenIn H fo = false) → noneSees m H l = true
  | [], _ => rfl
  | (i, fo) :: r, h => by
    have ih := nsees_ok fun i' fo' hi => h i' fo' (List.mem_cons_of_mem _ hi)
    simp only [noneSees]
    cases hb : m.testBit i
    · have h2 := (h i fo (by simp)).resolve_left (by simp [hb])
      rw [h2]; exact ih
    · exact ih
theorem seenBy_ok {m : Nat} {fo : List Nat} : ∀ {l : List (Nat × Hp)}, (∀ i Hi, (i, Hi) ∈ l → m.testBit i = true ∨ seenIn Hi fo = false) → seenByNone m fo l = true
  | [], _ => rfl
  | (i, Hi) :: r, h => by
    have ih := seenBy_ok (fo := fo) fun i' fo' hi => h i' fo' (List.mem_cons_of_mem _ hi)
    simp only [seenByNone]
    cases hb : m.testBit i
    · have h2 := (h i Hi (by simp)).resolve_left (by simp [hb])
      rw [h2]; exact ih
    · exact ih
theorem seenIn_l : ∀ {fo : List Nat}, seenIn .l fo = false
  | [] => rfl
  | x :: l => by simp only [seenIn, Tr.get_l]; exact seenIn_l
theorem quiet_ok {m : Nat} {H : Hp} {fo : List Nat} {fl : List (Nat × List Nat)} {hl : List (Nat × Hp)} (h1 : ∀ i fo, (i, fo) ∈ fl → m.testBit i = true ∨ seenIn H fo = false) (h2 : fo ≠ [] → ∀ i Hi, (i, Hi) ∈ hl → m.testBit i = true ∨ seenIn Hi fo = false) : quietWith m H fo fl hl = true := by
  unfold quietWith
  rw [nsees_ok h1]
  cases fo with
  | nil => rfl
  | cons x l => exact seenBy_ok (h2 (by simp))
theorem allIn_of {H : Hp} {lo : Nat} : ∀ {l : List Nat}, (∀ id ∈ l, lo ≤ id ∨ ∃ o, H.get id = some o) → allIn H lo l = true
  | [], _ => rfl
  | x :: l, h => by
    simp only [allIn, allIn_of fun id hi => h id (List.mem_cons_of_mem _ hi), Bool.and_true, Bool.or_eq_true]
    rcases h x (by simp) with h | ⟨o, h⟩
    · exact .inl (by simpa using h)
    · exact .inr (by rw [h]; rfl)
theorem add_ds {k : Nat} {H : Hp} {fo : List Nat} {D : Del} {g : Log} : (Log.add k H fo D g).ds = if D = [] then g.ds else (k, D) :: g.ds := by
  obtain ⟨a, b, c⟩ := g; cases D <;> rfl
theorem add_hs {k : Nat} {H : Hp} {fo : List Nat} {D : Del} {g : Log} {i : Nat} {Hi : Hp} (h : (i, Hi) ∈ (Log.add k H fo D g).hs) : (i, Hi) ∈ g.hs ∨ (i = k ∧ H ≠ .l) := by
  obtain ⟨a, b, c⟩ := g
  cases H with
  | l => exact .inl h
  | n v x y =>
    rcases List.mem_cons.1 (show (i, Hi) ∈ (k, Tr.n v x y) :: b from h) with e | h
    · cases e; exact .inr ⟨rfl, by simp⟩
    · exact .inl h
theorem add_fs {k : Nat} {H : Hp} {fo : List Nat} {D : Del} {g : Log} {i : Nat} {f : List Nat} (h : (i, f) ∈ (Log.add k H fo D g).fs) : (i, f) ∈ g.fs ∨ (i = k ∧ fo ≠ []) := by
  obtain ⟨a, b, c⟩ := g
  cases fo with
  | nil => exact .inl h
  | cons x y =>
    rcases List.mem_cons.1 (show (i, f) ∈ (k, x :: y) :: c from h) with e | h
    · cases e; exact .inr ⟨rfl, by simp⟩
    · exact .inl h
theorem heap_add {k : Nat} {H H₀ : Hp} {fo : List Nat} {D : Del} {g : Log} : heapOf tops H₀ (Log.add k H fo D g).ds = applyD (heapOf tops H₀ g.ds) D := by
  rw [add_ds]
  cases D with
  | nil => rfl
  | cons x l => rw [if_neg (by simp), heapOf_cons, if_pos rfl]
theorem below_eq (n : Nat) : ∀ l : List Nat, below n l = l.filter (· < n)
  | [] => rfl
  | x :: l => by
    have ih := below_eq n l
    simp only [below]
    by_cases h : x < n
    · have : Nat.blt x n = true := by simpa using h
      simp only [this, cond_true, ih]
      rw [List.filter_cons_of_pos (by simpa using h)]
      generalize l.filter (· < n) = u
      cases u <;> rfl
    · have : Nat.blt x n = false := by rw [← Bool.not_eq_true]; simpa using h
      simp only [this, cond_false, ih]
      rw [List.filter_cons_of_neg (by simpa using h)]

theorem add_hs' {k : Nat} {H : Hp} {fo : List Nat} {D : Del} {g : Log} {i : Nat} {Hi : Hp} (h : (i, Hi) ∈ (Log.add k H fo D g).hs) : (i, Hi) ∈ g.hs ∨ Hi = H := by
  obtain ⟨a, b, c⟩ := g
  cases H with
  | l => exact .inl h
  | n v x y =>
    rcases List.mem_cons.1 (show (i, Hi) ∈ (k, Tr.n v x y) :: b from h) with e | h
    · cases e; exact .inr rfl
    · exact .inl h
theorem add_fs' {k : Nat} {H : Hp} {fo : List Nat} {D : Del} {g : Log} {i : Nat} {f : List Nat} (h : (i, f) ∈ (Log.add k H fo D g).fs) : (i, f) ∈ g.fs ∨ f = fo := by
  obtain ⟨a, b, c⟩ := g
  cases fo with
  | nil => exact .inl h
  | cons x y =>
    rcases List.mem_cons.1 (show (i, f) ∈ (k, x :: y) :: c from h) with e | h
    · cases e; exact .inr rfl
    · exact .inl h
theorem half_add {ν₀ : Nm} {snx₀ nx₀ : Nat} {H₀ : Hp} {W : Nat → Prop} {lw₀ wr₀ : List Nat} {wr lw : List Nat} {es : List DE} {g : Log} (hh : Half W ν₀ snx₀ nx₀ H₀ lw₀ wr₀ ν M snx nx wr lw es g)
    {ν' : Nm} {M' : SH (stdA fs ov)} {snx' mx' k : Nat} {wr' lw' fo : List Nat} {D : Del} {Hs : Hp} {es' : List DE}
    (hlo : Lo snx ν ν') (hnw : ∀ id q o, snx ≤ id → ν' id = some (q, o) → nx ≤ q) (hup : nx ≤ mx') (hsup : snx ≤ snx')
    (htop : HS ν' M' snx' (applyD (heapOf tops H₀ g.ds) D) mx') (hwr : ∀ q ∈ lw', ∃ id ∈ wr', ∃ o, ν id = some (q, o)) (hhas : ∀ q ∈ lw', nx ≤ q ∨ ∃ o, (heapOf tops H₀ g.ds).get q = some o)
    (hD : ∀ x ∈ D, x.1 ∈ lw' ∨ nx ≤ x.1) (hes : ∀ e ∈ es, e ∈ es')
    (h1' : D ≠ [] → ∃ e ∈ es', e.k = k ∧ EOK ν' snx' mx' e D) (h2' : Hs ≠ .l → ∃ e ∈ es', e.k = k ∧ LOK ν' e.lk Hs) (h3' : fo ≠ [] → ∃ e ∈ es', e.k = k ∧ ∀ q ∈ fo, WOK ν' e.wr q) :
    Half W ν₀ snx₀ nx₀ H₀ lw₀ wr₀ ν' M' snx' mx' (addW wr' wr) (addW lw' lw) es' (Log.add k Hs fo D g) := by
  have hle : NLe ν ν' := hh.top.le hlo
  refine ⟨?_, fun i D' hi => ?_, fun i Hi hi => ?_, fun i f hi => ?_, fun id hid => ?_, fun id q o h1 h2 => ?_, Nat.le_trans hh.up hup, Nat.le_trans hh.sup hsup, fun q hq => ?_, fun q hq => mem_addW.2 (.inr (hh.mono q hq)), fun q hq hn => ?_, fun id hid => mem_addW.2 (.inr (hh.swr id hid)), fun q hq hn => ?_, fun q hq => ?_, hh.lt0⟩
  · rw [heap_add]; exact htop
  · have old : (i, D') ∈ g.ds → ∃ e ∈ es', e.k = i ∧ EOK ν' snx' mx' e D' := fun hi => by
      obtain ⟨e, a, b, c⟩ := hh.ent i D' hi
      exact ⟨e, hes e a, b, c.mono hle hlo hnw hsup hup⟩
    rw [add_ds] at hi
    split at hi
    · exact old hi
    · rename_i hne
      rcases List.mem_cons.1 hi with e | hi
      · cases e
        exact h1' hne
      · exact old hi
  · rcases add_hs hi with h | ⟨rfl, h⟩
    · obtain ⟨e, a, b, c⟩ := hh.hsb i Hi h
      exact ⟨e, hes e a, b, c.mono hle⟩
    · rcases add_hs' hi with h' | h'
      · obtain ⟨e, a, b, c⟩ := hh.hsb i Hi h'
        exact ⟨e, hes e a, b, c.mono hle⟩
      · rw [h']; exact h2' h
  · rcases add_fs hi with h | ⟨rfl, h⟩
    · obtain ⟨e, a, b, c⟩ := hh.fsb i f h
      exact ⟨e, hes e a, b, fun q hq => (c q hq).mono hle⟩
    · rcases add_fs' hi with h' | h'
      · obtain ⟨e, a, b, c⟩ := hh.fsb i f h'
        exact ⟨e, hes e a, b, fun q hq => (c q hq).mono hle⟩
      · rw [h']; exact h3' h
  · rw [hlo id (Nat.lt_of_lt_of_le hid hh.sup), hh.lo id hid]
  · by_cases hlt : id < snx
    · rw [hlo id hlt] at h2; exact hh.nw id q o h1 h2
    · exact Nat.le_trans hh.up (hnw id q o (by omega) h2)
  · rcases mem_addW.1 hq with h | h
    · obtain ⟨id, h1, o, h2⟩ := hwr q h
      exact .inr ⟨id, mem_addW.2 (.inl h1), o, hle _ _ h2⟩
    · rcases hh.wrs q h with hW | ⟨id, h1, o, h2⟩
      · exact .inl hW
      · exact .inr ⟨id, mem_addW.2 (.inr h1), o, hle _ _ h2⟩
  · rw [heap_add, applyD_ne fun x hx e => ?_]
    · exact hh.keep q hq fun h => hn (mem_addW.2 (.inr h))
    · rcases hD x hx with h | h
      · rw [e] at h; exact hn (mem_addW.2 (.inl h))
      · have := hh.up; omega
  · rw [heap_add, applyD_ne fun x hx e => ?_]
    · refine hh.keepS q hq fun id hid o he => hn id (mem_addW.2 (.inr hid)) o (hle _ _ he)
    · rcases hD x hx with h | h
      · rw [e] at h
        obtain ⟨id, h1, o, h2⟩ := hwr q h
        exact hn id (mem_addW.2 (.inl h1)) o (hle _ _ h2)
      · have := hh.up; omega
  · rcases mem_addW.1 hq with h | h
    · rcases hhas q h with h1 | ⟨o, h1⟩
      · exact .inr (.inl (Nat.le_trans hh.up h1))
      · by_cases hlt : nx₀ ≤ q
        · exact .inr (.inl hlt)
        · by_cases hw : q ∈ lw
          · exact hh.has q hw
          · exact .inr (.inr ⟨o, by rw [← hh.keep q (by omega) hw]; exact h1⟩)
    · exact hh.has q h

/-! ### Operations by what they look at -/
theorem sBuiltin_val {b : Builtin} {ts : List TypeId} {args : List (SV (stdA fs ov))} {la : List LV} {K : KS (stdA fs ov)} (hna : b ≠ .append) (h : sBuiltin P b ts args M snx K) (ha : VSL ν args la) :
    ∃ v lv, (∀ H, evBuiltin P b ts la H nx = some ⟨lv, H, nx, []⟩) ∧ VS ν v lv ∧ K v M snx [] := by
  unfold sBuiltin at h
  split at h
  · rename_i t x
    obtain ⟨lx, r, rfl, hx, hr⟩ := ha
    obtain rfl := hr
    split at h
    · rename_i e hu
      obtain rfl := hx
      exact ⟨.i .i64 (0 : Int), .i .i64 0, fun H => by simp only [evBuiltin, hu], rfl, h⟩
    · rename_i e id off len cap hu
      obtain ⟨r, hr, rfl⟩ := hx
      exact ⟨.i .i64 (len : Int), .i .i64 (.ofNat len), fun H => by simp only [evBuiltin, hu], rfl, h⟩
    · rename_i e own id n hu
      obtain ⟨hn, ⟨rfl, h3⟩ | ⟨r, o, hr, ⟨rfl, rfl⟩ | ⟨_, c, hc, rfl⟩⟩⟩ := hx
      · have h3 : n = (0 : Int) := h3
        subst h3
        exact ⟨.i .i64 (0 : Int), .i .i64 0, fun H => by simp only [evBuiltin, hu], rfl, h⟩
      · exact ⟨.i .i64 n, .i .i64 (.ofNat (Int.toNat n)), fun H => by simp only [evBuiltin, hu], by show LV.i _ _ = LV.i _ _; rw [show Int.ofNat (Int.toNat n) = n from Int.toNat_of_nonneg hn], h⟩
      · exact ⟨.i .i64 n, .i .i64 (.ofNat (Int.toNat n)), fun H => by simp only [evBuiltin, hu], by show LV.i _ _ = LV.i _ _; rw [show Int.ofNat (Int.toNat n) = n from Int.toNat_of_nonneg hn], h⟩
    · rename_i n e hu
      exact ⟨.i .i64 (n : Int), .i .i64 (.ofNat n), fun H => by simp only [evBuiltin, hu], rfl, h⟩
    · exact h.elim
  · rename_i k x l
    obtain ⟨lx, r, rfl, hx, hr⟩ := ha
    obtain rfl := hx
    obtain ⟨v, h1, h2⟩ := opt_ok h
    obtain ⟨lv, h3, h4⟩ := foldS_ok h1 hr
    exact ⟨v, lv, fun H => by simp only [evBuiltin, h3], h4, h2⟩
  · rename_i k x l
    obtain ⟨lx, r, rfl, hx, hr⟩ := ha
    obtain rfl := hx
    obtain ⟨v, h1, h2⟩ := opt_ok h
    obtain ⟨lv, h3, h4⟩ := foldS_ok h1 hr
    exact ⟨v, lv, fun H => by simp only [evBuiltin, h3], h4, h2⟩
  · exact absurd rfl hna
  · exact h.elim
/-- An operation that looks at no memory: a value, or a new block. -/
theorem sOp_none {cs : CallS (stdA fs ov)} {call : CallT} (hF : FS ν T L) {op : Op} {K : KS (stdA fs ov)} (hk : looks T op = none) (h : sOp P cs T M snx op K) :
    (∃ v lv, (∀ H, evOp P call L H nx op = some ⟨⟨lv, H, nx, []⟩, nx⟩) ∧ VS ν v lv ∧ K v M snx []) ∨
    (∃ so lo v lv f, (∀ H, evOp P call L H nx op = res (fresh H nx lo f [])) ∧ f nx = lv ∧ sFresh M snx so v [] K ∧ (∀ ν', NLe ν ν' → ν' snx = some (nx, 0) → ∀ H' : Hp, H'.get nx = some lo → OS ν' H' snx so) ∧ (∀ ν' : Nm, ν' snx = some (nx, 0) → VS ν' v lv)) := by
  have pure : ∀ {op : Op}, sPure P T op (fun v => K v M snx []) → (∀ H, evOp P call L H nx op = res (evPureO P L H nx op)) → (∃ v lv, (∀ H, evOp P call L H nx op = some ⟨⟨lv, H, nx, []⟩, nx⟩) ∧ VS ν v lv ∧ K v M snx []) := fun {op} hp he => by
    obtain ⟨v, lv, h1, h2, h3⟩ := sPure_ok hF hp
    exact ⟨v, lv, fun H => by rw [he]; simp only [evPureO, h1, res], h2, h3⟩
  cases op
  case load t x => simp only [looks] at hk; split at hk <;> cases hk
  case store t x y => (simp only [looks] at hk; split at hk <;> cases hk)
  case alloc t =>
    simp only [sOp] at h
    split at h
    · rename_i z hz
      obtain ⟨lz, h1, h2⟩ := sZero_ok (ν := ν) hz
      exact .inr ⟨_, .row t lz.cells, .p snx 0, .p nx 0, fun id => .p id 0, fun H => by simp only [evOp, evAlloc, h1], rfl, h, fun ν' hle hn H' hH => ⟨nx, lz.cells, hn, hH, h2.cells.mono hle⟩, fun ν' hn => ⟨nx, hn, rfl⟩⟩
    · exact h.elim
  case box t x =>
    simp only [sOp] at h
    split at h
    · rename_i z hz
      obtain ⟨lz, h1, h2⟩ := sO_ok hF hz
      exact .inr ⟨_, .row t lz.cells, .p snx 0, .p nx 0, fun id => .p id 0, fun H => by simp only [evOp, evBox, h1], rfl, h, fun ν' hle hn H' hH => ⟨nx, lz.cells, hn, hH, h2.cells.mono hle⟩, fun ν' hn => ⟨nx, hn, rfl⟩⟩
    · exact h.elim
  case buildSlice t len ps =>
    simp only [sOp] at h
    unfold sBuildSl at h
    split at h
    · rename_i e hu
      split at h
      · rename_i z n l hz hs hl
        obtain ⟨lz, h1, h2⟩ := sZero_ok (ν := ν) hz
        obtain ⟨ll, h3, h4⟩ := sPartsO_ok hF hl
        rw [← h2.cells.length] at h
        cases hc : (Nat.beq lz.cells.length n && Nat.blt 0 n && Nat.ble (len * n) 16777216)
        · simp only [hc, cond_false] at h <;> exact h.elim
        · simp only [hc, cond_true] at h
          cases hf : sFill (fun i => some (i * n, n)) (sRep len z.cells) l with
          | none => simp only [hf] at h <;> exact h.elim
          | some cs =>
            simp only [hf] at h
            obtain ⟨lr, h5, h6⟩ := sFill_ok hf h4 (sRep_ok h2.cells len)
            exact .inr ⟨_, .row e lr, .sl snx 0 len len, .sl nx 0 len len, fun id => .sl id 0 len len, fun H => by simp only [evOp, evBuildSl, hu, h1, hs, h3, hc, cond_true, h5], rfl, h, fun ν' hle hn H' hH => ⟨nx, lr, hn, hH, h6.mono hle⟩, fun ν' hn => ⟨nx, hn, rfl⟩⟩
      · exact h.elim
    · exact h.elim
  case call c =>
    obtain ⟨callee, args, ts⟩ := c
    simp only [sOp, sCallee] at h
    cases callee with
    | value f => cases hk
    | invoke x m => exact h.elim
    | builtin b =>
      simp only at h
      split at h
      · rename_i av ha
        obtain ⟨la, h1, h2⟩ := sOs_ok hF ha
        obtain ⟨v, lv, h3, h4, h5⟩ := sBuiltin_val (nx := nx) (fun e => by subst e; cases hk) h h2
        exact .inl ⟨v, lv, fun H => by simp only [evOp, evCallee, h1, h3, res], h4, h5⟩
      · exact h.elim
  case makeSlice t l c => exact absurd h (by simp [sOp, sPure])
  all_goals exact .inl (pure h fun H => rfl)
end Go.Rx

set_option linter.unusedSimpArgs false
set_option linter.unusedVariables false
set_option linter.unusedSectionVars false
namespace Go.Rx
open Go
variable {fs : Fs} {ov : Bool} {ν : Nm} {P : Program} {T : Al (SV (stdA fs ov))} {L : Tr LV} {M : SH (stdA fs ov)} {H : Hp} {snx nx : Nat}

theorem got_one {H : Hp} {r : Nat} {lo : LO} (h : H.get r = some lo) : (one H r).get r = some lo := by
  unfold one; rw [h]; exact Tr.get_set_same _ _ _
theorem delta_one {H : Hp} {r : Nat} {fo : List Nat} : delta H (ap' fo (rng r 0)) = delta H fo := by rw [ap'_eq]; simp [rng]
theorem delta_keys {H : Hp} : ∀ {l : List Nat} {x : Nat × Option LO}, x ∈ delta H l → x.1 ∈ l
  | [], x, h => by simp [delta] at h
  | y :: l, x, h => by
    rw [delta_cons] at h
    rcases List.mem_cons.1 h with rfl | h
    · simp
    · exact List.mem_cons_of_mem _ (delta_keys h)
theorem delta_nil {H : Hp} {l : List Nat} (h : l = []) : delta H l = [] := by subst h; rfl
theorem delta_ne {H : Hp} {l : List Nat} (h : delta H l ≠ []) : l ≠ [] := fun e => h (delta_nil e)
theorem scope_none {S : Nat → Bool} {ds : List (Nat × Del)} {op : Op} (hk : looks T op = none) : scopeOf L S H ds op = .l := by
  cases op
  case load t x => simp only [looks] at hk; split at hk <;> cases hk
  case store t x y => (simp only [looks] at hk; split at hk <;> cases hk)
  case call c =>
    obtain ⟨callee, args, ts⟩ := c
    cases callee with
    | value f => cases hk
    | invoke x m => rfl
    | builtin b => cases b <;> first | rfl | cases hk
  all_goals rfl
/-- One operation that is wanted. -/
theorem evDrawn_step {call : CallT} {ops : Array Oper} {ms : Tr Nat} {H₀ : Hp} {o : Oper} {rest : List Oper} {k N : Nat} {H₁ Hs : Hp} {df lw : List Nat} {mx m : Nat} {g : Log} {r : Res} {L' : Tr LV}
    (hw : want ops L o = some true) (hm : ms.get k = some m) (hs : scopeOf L m.testBit H₀ g.ds o.op = Hs) (he : evOp P call L Hs nx o.op = some r) (h1 : nx ≤ r.o.nx) (h2 : r.o.nx ≤ r.mx) (h3 : ∀ id ∈ r.o.wr, nx ≤ id ∨ ∃ o, Hs.get id = some o)
    (h4 : ∀ i fo, (i, fo) ∈ g.fs → m.testBit i = true ∨ seenIn Hs fo = false) (h5 : below nx r.o.wr ≠ [] → ∀ i Hi, (i, Hi) ∈ g.hs → m.testBit i = true ∨ seenIn Hi (below nx r.o.wr) = false) (hp : putT L N o.dst r.o.v = some L') :
    evDrawn P call ops ms H₀ (o :: rest) k ⟨L, N, H₁, nx, lw, df, mx⟩ g = evDrawn P call ops ms H₀ rest (k + 1) ⟨L', N, H₁, r.mx, addW r.o.wr lw, df, mx⟩ (Log.add k Hs (below nx r.o.wr) (delta r.o.H (ap' (below nx r.o.wr) (rng nx (r.o.nx - nx)))) g) := by
  obtain ⟨ds, hl, fl⟩ := g
  obtain ⟨⟨v, H', nx', wr'⟩, mx'⟩ := r
  simp only at hs he h1 h2 h3 h4 h5 hp
  have b1 : Nat.ble nx nx' = true := by simpa using h1
  have b2 : Nat.ble nx' mx' = true := by simpa using h2
  simp only [evDrawn, hw, hm, Tr.force_eq, hs, he, b1, b2, allIn_of h3, quiet_ok h4 h5, Bool.and_true, cond_true, hp, nN_eq]
  rfl
theorem seenIn_of {H : Hp} : ∀ {fo : List Nat}, (∀ q ∈ fo, H.get q = none) → seenIn H fo = false
  | [], _ => rfl
  | x :: l, h => by simp only [seenIn, h x (by simp)]; exact seenIn_of fun q hq => h q (by simp [hq])
theorem one_get {H : Hp} {r q : Nat} {lo : LO} (h : (one H r).get q = some lo) : q = r := by
  unfold one at h
  split at h
  · rw [Tr.get_set] at h
    split at h
    · assumption
    · simp [Tr.get_l] at h
  · simp [Tr.get_l] at h
theorem one_none {H : Hp} {r q : Nat} (h : q ≠ r) : (one H r).get q = none := by
  cases e : (one H r).get q with
  | none => rfl
  | some lo => exact absurd (one_get e) h
theorem heap_sub' {S : Nat → Bool} : ∀ {ds : List (Nat × Del)}, (∀ i D, (i, D) ∈ ds → S i = true ∨ D = []) → heapOf S H ds = heapOf tops H ds
  | [], _ => rfl
  | (k, D) :: ds, h => by
    have ih := heap_sub' fun i D' hi => h i D' (List.mem_cons_of_mem _ hi)
    rw [heapOf_cons, heapOf_cons, if_pos (show tops k = true from rfl)]
    rcases h k D (by simp) with h1 | h1
    · rw [if_pos h1, ih]
    · subst h1
      split
      · rw [ih]
      · exact ih
theorem here_ok {j : Nat} (h : SH.here M j = true) : ∃ so, M.get j = some so := by
  unfold SH.here at h
  cases e : M.get j with
  | none => rw [e] at h; cases h
  | some so => exact ⟨so, rfl⟩
theorem ours_ok {j : Nat} (h : SH.ours M j = true) : ∃ so, M.get j = some so ∧ so.mine = true := by
  unfold SH.ours at h
  cases e : M.get j with
  | none => rw [e] at h; cases h
  | some so => rw [e] at h; exact ⟨so, rfl, h⟩
theorem out_ok {id lo hi : Nat} (h : (Nat.blt id lo || Nat.ble hi id) = true) : id < lo ∨ hi ≤ id := by
  rw [Bool.or_eq_true] at h
  exact h.imp (fun h => by simpa using h) (fun h => by simpa using h)
theorem sees_one {m id : Nat} : ∀ {es : List DE}, seesOne M m id es = true → ∀ e ∈ es, m.testBit e.k = true ∨ ((id < e.lo ∨ e.hi ≤ id) ∧ e.wr ≠ some none ∧ ∀ j, e.wr = some (some j) → j ≠ id ∧ ∃ so, M.get j = some so ∧ so.mine = true)
  | [], _, e, he => by cases he
  | ⟨k, lk, wr, lo, hi⟩ :: r, h, e, he => by
    simp only [seesOne] at h
    cases hb : Nat.testBit m k with
    | true =>
      rw [hb] at h
      rcases List.mem_cons.1 he with rfl | he
      · exact .inl hb
      · exact sees_one h e he
    | false =>
      rw [hb] at h
      cases wr with
      | none =>
        simp only [Bool.and_eq_true] at h
        rcases List.mem_cons.1 he with rfl | he
        · exact .inr ⟨out_ok h.1, by simp, fun j hj => by cases hj⟩
        · exact sees_one h.2 e he
      | some w =>
        cases w with
        | none => cases h
        | some j =>
          simp only [Bool.and_eq_true] at h
          obtain ⟨⟨h1, h2⟩, h3⟩ := h
          rcases List.mem_cons.1 he with rfl | he
          · refine .inr ⟨out_ok h2, by simp, fun j' hj => ?_⟩
            cases hj
            cases hj : Nat.beq j id with
            | true => rw [hj] at h1; cases h1
            | false => rw [hj] at h1; exact ⟨(beq_false _ _).1 hj, ours_ok h1⟩
          · exact sees_one h3 e he
theorem sees_all {m : Nat} : ∀ {es : List DE}, seesAll m es = true → ∀ e ∈ es, m.testBit e.k = true ∨ (e.wr = none ∧ e.lo = e.hi)
  | [], _, e, he => by cases he
  | ⟨k, lk, wr, lo, hi⟩ :: r, h, e, he => by
    simp only [seesAll] at h
    cases hb : Nat.testBit m k with
    | true =>
      rw [hb] at h
      rcases List.mem_cons.1 he with rfl | he
      · exact .inl hb
      · exact sees_all h e he
    | false =>
      rw [hb] at h
      cases wr with
      | none =>
        simp only [Bool.and_eq_true] at h
        rcases List.mem_cons.1 he with rfl | he
        · exact .inr ⟨rfl, (beq_iff _ _).1 h.1⟩
        · exact sees_all h.2 e he
      | some w => cases h
theorem may_write {m : Nat} {lk : Option (Option Nat)} : ∀ {es : List DE}, mayWrite M m lk es = true → ∀ e ∈ es, m.testBit e.k = true ∨ e.lk = none ∨ ∃ id j, lk = some (some id) ∧ e.lk = some (some j) ∧ j ≠ id ∧ ∃ so, M.get j = some so
  | [], _, e, he => by cases he
  | ⟨k, l, wr, lo, hi⟩ :: r, h, e, he => by
    simp only [mayWrite] at h
    cases hb : Nat.testBit m k with
    | true =>
      rw [hb] at h
      rcases List.mem_cons.1 he with rfl | he
      · exact .inl hb
      · exact may_write h e he
    | false =>
      rw [hb] at h
      cases l with
      | none =>
        rcases List.mem_cons.1 he with rfl | he
        · exact .inr (.inl rfl)
        · exact may_write h e he
      | some w =>
        cases w with
        | none => cases h
        | some j =>
          cases lk with
          | none => cases h
          | some x =>
            cases x with
            | none => cases h
            | some id =>
              simp only [Bool.and_eq_true] at h
              obtain ⟨h1, h3⟩ := h
              rcases List.mem_cons.1 he with rfl | he
              · refine .inr (.inr ⟨id, j, rfl, rfl, ?_⟩)
                cases hj : Nat.beq j id with
                | true => rw [hj] at h1; cases h1
                | false => rw [hj] at h1; exact ⟨(beq_false _ _).1 hj, here_ok h1⟩
              · exact may_write h3 e he
theorem addE_old {k lo hi : Nat} {lk w : Option (Option Nat)} {es : List DE} : ∀ e ∈ es, e ∈ addE k lk w lo hi es := fun e he => by
  unfold addE
  split
  · exact he
  · exact List.mem_cons_of_mem _ he
theorem addE_new {k lo hi : Nat} {lk w : Option (Option Nat)} {es : List DE} (h : lk ≠ none ∨ lo ≠ hi) : ⟨k, lk, w, lo, hi⟩ ∈ addE k lk w lo hi es := by
  unfold addE
  split
  · rename_i hb
    rcases h with h | h
    · exact absurd rfl h
    · exact absurd ((beq_iff _ _).1 hb) h
  · exact List.mem_cons_self ..
section
variable {ν₀ : Nm} {snx₀ nx₀ : Nat} {H₀ : Hp} {lw₀ wr₀ wr lw : List Nat} {W : Nat → Prop} {es : List DE} {g : Log} {m : Nat}
theorem half_old (hh : Half W ν₀ snx₀ nx₀ H₀ lw₀ wr₀ ν M snx nx wr lw es g) {id r o : Nat} {so : SO (stdA fs ov)} (hg : M.get id = some so) (hr : ν id = some (r, o)) (h : seesOne M m id es = true) : (heapOf m.testBit H₀ g.ds).get r = (heapOf tops H₀ g.ds).get r :=
  heap_old fun i D hi => by
    obtain ⟨e, he, rfl, a, b, c1, c2, c3, c4, c5⟩ := hh.ent i D hi
    rcases sees_one h e he with hm | ⟨h1, h2, h3⟩
    · exact .inl hm
    · refine .inr fun x hx er => ?_
      rcases c5 x hx with ⟨p, q⟩ | w
      · have := c4 id r o hr (by omega) (by omega); omega
      · rcases w with w | ⟨j, o', w, hj⟩
        · exact h2 w
        · obtain ⟨k1, so', k2, k3⟩ := h3 j w
          subst er
          exact k1 (hh.top.inj j id x.1 o' o so' so k2 k3 hg hj hr)
theorem half_all (hh : Half W ν₀ snx₀ nx₀ H₀ lw₀ wr₀ ν M snx nx wr lw es g) (h : seesAll m es = true) : heapOf m.testBit H₀ g.ds = heapOf tops H₀ g.ds :=
  heap_sub' fun i D hi => by
    obtain ⟨e, he, rfl, a, b, c1, c2, c3, c4, c5⟩ := hh.ent i D hi
    rcases sees_all h e he with hm | ⟨h1, h2⟩
    · exact .inl hm
    · refine .inr ?_
      cases D with
      | nil => rfl
      | cons x l =>
        have := c3 h2
        rcases c5 x (by simp) with ⟨p, q⟩ | w
        · omega
        · rcases w with w | ⟨j, o', w, hj⟩ <;> rw [h1] at w <;> cases w
theorem half_fs (hh : Half W ν₀ snx₀ nx₀ H₀ lw₀ wr₀ ν M snx nx wr lw es g) {id r o : Nat} {so : SO (stdA fs ov)} (hg : M.get id = some so) (hr : ν id = some (r, o)) (h : seesOne M m id es = true) {H : Hp} {i : Nat} {fo : List Nat} (hi : (i, fo) ∈ g.fs) : m.testBit i = true ∨ seenIn (one H r) fo = false := by
  obtain ⟨e, he, rfl, hw⟩ := hh.fsb i fo hi
  rcases sees_one h e he with hm | ⟨h1, h2, h3⟩
  · exact .inl hm
  · refine .inr (seenIn_of fun q hq => one_none fun er => ?_)
    rcases hw q hq with w | ⟨j, o', w, hj⟩
    · exact h2 w
    · obtain ⟨k1, so', k2, k3⟩ := h3 j w
      subst er
      exact k1 (hh.top.inj j id q o' o so' so k2 k3 hg hj hr)
theorem half_fs_all (hh : Half W ν₀ snx₀ nx₀ H₀ lw₀ wr₀ ν M snx nx wr lw es g) (h : seesAll m es = true) {H : Hp} {i : Nat} {fo : List Nat} (hi : (i, fo) ∈ g.fs) : m.testBit i = true ∨ seenIn H fo = false := by
  obtain ⟨e, he, rfl, hw⟩ := hh.fsb i fo hi
  rcases sees_all h e he with hm | ⟨h1, h2⟩
  · exact .inl hm
  · refine .inr (seenIn_of fun q hq => ?_)
    rcases hw q hq with w | ⟨j, o', w, hj⟩ <;> rw [h1] at w <;> cases w
theorem half_hs (hh : Half W ν₀ snx₀ nx₀ H₀ lw₀ wr₀ ν M snx nx wr lw es g) {lk : Option (Option Nat)} (h : mayWrite M m lk es = true) {fo : List Nat} (hfo : lk = some none ∨ ∃ id r so, lk = some (some id) ∧ M.get id = some so ∧ so.mine = true ∧ ν id = some (r, 0) ∧ ∀ q ∈ fo, q = r) {i : Nat} {Hi : Hp} (hi : (i, Hi) ∈ g.hs) : m.testBit i = true ∨ seenIn Hi fo = false := by
  obtain ⟨e, he, rfl, hw⟩ := hh.hsb i Hi hi
  rcases may_write h e he with hm | hn | ⟨id, j, h1, h2, h3, so', h4⟩
  · exact .inl hm
  · rcases hw with w | ⟨j, w, _⟩ <;> rw [hn] at w <;> cases w
  · refine .inr (seenIn_of fun q hq => ?_)
    rcases hfo with hfo | ⟨id', r, so, hl, hg, hm, hr, hfo⟩
    · rw [hfo] at h1; cases h1
    · rw [hl] at h1; cases h1
      obtain rfl := hfo q hq
      cases e1 : Hi.get q with
      | none => rfl
      | some lo =>
        exfalso
        rcases hw with w | ⟨j', w, w2⟩
        · rw [h2] at w; cases w
        · rw [h2] at w; cases w
          obtain ⟨o', w3⟩ := w2 q lo e1
          exact h3 (hh.top.inj id j q 0 o' so so' hg hm h4 hr w3).symm
end
theorem sDrawn_ok {cs : CallS (stdA fs ov)} {call : CallT} (hc : CallSOK cs call) {ops : Array Oper} {ms : Tr Nat} {ν₀ : Nm} {snx₀ nx₀ : Nat} {H₀ H₁ : Hp} {W : Nat → Prop} {lw₀ wr₀ df : List Nat} {mx : Nat} {N : Nat} :
    ∀ {l : List Oper} {k : Nat} {es : List DE} {T : Al (SV (stdA fs ov))} {M : SH (stdA fs ov)} {snx : Nat} {wr : List Nat} {ν : Nm} {L : Tr LV} {nx : Nat} {lw : List Nat} {g : Log} {K : SS (stdA fs ov) → Prop}, sDrawn P cs ops ms l k es ⟨T, N, M, snx, wr⟩ K →
      FS ν T L → Half W ν₀ snx₀ nx₀ H₀ lw₀ wr₀ ν M snx nx wr lw es g → ∃ L' nx' lw' g' ν' s' es', evDrawn P call ops ms H₀ l k ⟨L, N, H₁, nx, lw, df, mx⟩ g = some (⟨L', N, H₁, nx', lw', df, mx⟩, g') ∧ FS ν' s'.T L' ∧ Half W ν₀ snx₀ nx₀ H₀ lw₀ wr₀ ν' s'.H s'.nx nx' s'.wr lw' es' g' ∧ s'.N = N ∧ K s'
  | [], k, es, T, M, snx, wr, ν, L, nx, lw, g, K, h, hF, hh => ⟨L, nx, lw, g, ν, _, es, rfl, hF, hh, rfl, h⟩
  | o :: rest, k, es, T, M, snx, wr, ν, L, nx, lw, g, K, h, hF, hh => by
    simp only [sDrawn] at h
    rcases sWant_ok hF h with ⟨T', hw, hF, h⟩ | ⟨T', hw, hF, h⟩
    · cases hm : ms.get k with
      | none => simp only [hm] at h <;> exact h.elim
      | some m =>
        simp only [hm] at h
        cases hgo : mayGo M m es (looks T' o.op) with
        | false => simp only [hgo, cond_false] at h <;> exact h.elim
        | true =>
          simp only [hgo, cond_true] at h
          cases hk : looks T' o.op with
          | none =>
            simp only [hk] at h
            have hsc : scopeOf L m.testBit H₀ g.ds o.op = .l := scope_none hk
            rcases sOp_none (nx := nx) (call := call) hF hk h with ⟨v, lv, he, hv, h⟩ | ⟨so, lo, v, lv, f, he, hf, h, hO, hv⟩
            · obtain ⟨T2, L2, hp, hF2, h⟩ := sPut_ok hF h hv
              have hh' := half_add (k := k) (wr' := []) (lw' := []) (fo := []) (D := []) (Hs := .l) (es' := addE k none none snx snx es) hh (fun _ _ => rfl) (fun id q o h1 h2 => by have := (hh.top.lt id q o h2).2; omega) (Nat.le_refl nx) (Nat.le_refl snx) hh.top (by simp) (by simp) (by simp) addE_old (by simp) (by simp) (by simp)
              obtain ⟨L', nx', lw', g', ν', s', es', e, r1⟩ := sDrawn_ok hc h hF2 hh'
              refine ⟨L', nx', lw', g', ν', s', es', ?_, r1⟩
              rw [evDrawn_step hw hm hsc (he .l) (Nat.le_refl _) (Nat.le_refl _) (by simp) (fun i fo _ => .inr seenIn_l) (by simp [below]) hp]
              have e0 : delta (.l : Hp) (ap' (below nx []) (rng nx (nx - nx))) = [] := delta_nil (by simp [below, ap', rng])
              rw [e0]
              exact e
            · simp only [sFresh, Al.force_eq] at h
              obtain ⟨h1, hle⟩ := hs_new hh.top hO
              have hF' : FS (updN ν snx (some (nx, 0))) T' L := ⟨fun t u hu => let ⟨lv, a, b⟩ := hF.at_ t u hu; ⟨lv, a, b.mono hle⟩⟩
              obtain ⟨T2, L2, hp, hF2, h⟩ := sPut_ok hF' h (hv _ updN_same)
              have hlo : Lo snx ν (updN ν snx (some (nx, 0))) := fun id hid => updN_ne (by omega)
              have hh' := half_add (k := k) (wr' := []) (lw' := []) (fo := []) (D := [(nx, some lo)]) (Hs := .l) (ν' := updN ν snx (some (nx, 0))) (M' := M.set snx (some so)) (snx' := snx + 1) (mx' := nx + 1) (es' := addE k none none snx (snx + 1) es) hh hlo (fun id q o h1 h2 => by
                  by_cases e : id = snx
                  · subst e; rw [updN_same] at h2; cases h2; exact Nat.le_refl _
                  · rw [updN_ne e] at h2; have := (hh.top.lt _ _ _ h2).2; omega) (by omega) (by omega) (by rw [applyD_cons]; exact h1) (by simp) (by simp) (by simp) addE_old
                (fun _ => ⟨_, addE_new (.inr (by omega)), rfl, nx, nx + 1, Nat.le_refl _, Nat.le_refl _, fun e => by dsimp only at e; omega, fun id r o h1 h2 h3 => by
                  by_cases e : id = snx
                  · subst e; exact ⟨Nat.le_refl _, by show id < id + 1; omega⟩
                  · rw [updN_ne e] at h1; have := (hh.top.lt _ _ _ h1).1; omega, fun x hx => by
                  simp only [List.mem_singleton] at hx; subst hx; exact .inl ⟨Nat.le_refl _, Nat.lt_succ_self _⟩⟩) (by simp) (by simp)
              obtain ⟨L', nx', lw', g', ν', s', es', e, r1⟩ := sDrawn_ok hc h hF2 hh'
              refine ⟨L', nx', lw', g', ν', s', es', ?_, r1⟩
              have hev : evOp P call L .l nx o.op = some ⟨⟨lv, Tr.set .l nx (some lo), nx + 1, []⟩, nx + 1⟩ := by rw [he, fresh_eq, hf]; rfl
              rw [evDrawn_step hw hm hsc hev (by show nx ≤ nx + 1; omega) (Nat.le_refl _) (by simp) (fun i fo _ => .inr seenIn_l) (by simp [below]) hp]
              have e0 : delta (Tr.set (.l : Hp) nx (some lo)) (ap' (below nx []) (rng nx (nx + 1 - nx))) = [(nx, some lo)] := by
                have : ap' (below nx []) (rng nx (nx + 1 - nx)) = [nx] := by rw [show nx + 1 - nx = 1 by omega]; simp [below, ap', rng, nN_eq]
                rw [this, delta_cons, Tr.get_set_same]; rfl
              rw [e0]
              exact e
          | some lk =>
            rw [hk] at hgo
            simp only [hk] at h
            -- what is common to stores and calls
            have common : ∀ {Hs : Hp} {r : Res} {ν' : Nm} {v : SV (stdA fs ov)} {M' : SH (stdA fs ov)} {snx' : Nat} {wr' : List Nat}, scopeOf L m.testBit H₀ g.ds o.op = Hs → evOp P call L Hs nx o.op = some r → r.o.nx ≤ r.mx → nx ≤ r.o.nx → snx ≤ snx' → Lo snx ν ν' → (∀ id q o, snx ≤ id → ν' id = some (q, o) → nx ≤ q) → VS ν' v r.o.v →
                HS ν' M' snx' (applyD (heapOf tops H₀ g.ds) (delta r.o.H (ap' (below nx r.o.wr) (rng nx (r.o.nx - nx))))) r.mx → (∀ q ∈ r.o.wr, ∃ id ∈ wr', ∃ o, ν id = some (q, o)) → (∀ q ∈ r.o.wr, nx ≤ q ∨ ∃ o, Hs.get q = some o) → (∀ q o, Hs.get q = some o → (heapOf tops H₀ g.ds).get q = some o) → (r.o.nx ≠ nx → snx' ≠ snx) →
                (∀ {i fo}, (i, fo) ∈ g.fs → m.testBit i = true ∨ seenIn Hs fo = false) → LOK ν (some lk) Hs → (∀ q ∈ r.o.wr, WOK ν (some lk) q) → (wr' ≠ [] → lk = none ∨ ∃ id r' so, some lk = some (some id) ∧ M.get id = some so ∧ so.mine = true ∧ ν id = some (r', 0) ∧ ∀ q ∈ below nx r.o.wr, q = r') →
                (sPut T' N o.dst v fun T => (match wr' with
                  | [] => sDrawn P cs ops ms rest (k + 1) (addE k (some lk) none snx snx' es) ⟨T, N, M', snx', wr⟩ K
                  | x :: l => bif mayWrite M m (some lk) es then sDrawn P cs ops ms rest (k + 1) (addE k (some lk) (some lk) snx snx' es) ⟨T, N, M', snx', addW (x :: l) wr⟩ K else False)) →
                ∃ L' nx' lw' g' ν' s' es', evDrawn P call ops ms H₀ (o :: rest) k ⟨L, N, H₁, nx, lw, df, mx⟩ g = some (⟨L', N, H₁, nx', lw', df, mx⟩, g') ∧ FS ν' s'.T L' ∧ Half W ν₀ snx₀ nx₀ H₀ lw₀ wr₀ ν' s'.H s'.nx nx' s'.wr lw' es' g' ∧ s'.N = N ∧ K s' := by
              intro Hs r ν' v M' snx' wr' hsc hev hmx hup hsup hlo hnw hv htop hwr hhas hsub hne h4 hL hW hfo h
              have hle := hh.top.le hlo
              have hF' : FS ν' T' L := ⟨fun t u hu => let ⟨lv, a, b⟩ := hF.at_ t u hu; ⟨lv, a, b.mono hle⟩⟩
              obtain ⟨T2, L2, hp, hF2, h⟩ := sPut_ok hF' h hv
              have hD : ∀ x ∈ delta r.o.H (ap' (below nx r.o.wr) (rng nx (r.o.nx - nx))), x.1 ∈ r.o.wr ∨ (nx ≤ x.1 ∧ x.1 < r.o.nx) := fun x hx => by
                have := delta_keys hx
                rw [ap'_eq, List.mem_append] at this
                rcases this with h | h
                · exact .inl (mem_below.1 h).1
                · have := mem_rng.1 h; exact .inr (by omega)
              have hD' : ∀ x ∈ delta r.o.H (ap' (below nx r.o.wr) (rng nx (r.o.nx - nx))), x.1 ∈ r.o.wr ∨ nx ≤ x.1 := fun x hx => (hD x hx).imp_right fun h => h.1
              have hhas' : ∀ q ∈ r.o.wr, nx ≤ q ∨ ∃ o, (heapOf tops H₀ g.ds).get q = some o := fun q hq => (hhas q hq).imp_right fun ⟨o, h⟩ => ⟨o, hsub q o h⟩
              have ent : ∀ w : Option (Option Nat), (∀ q ∈ r.o.wr, WOK ν w q) → EOK ν' snx' r.mx ⟨k, some lk, w, snx, snx'⟩ (delta r.o.H (ap' (below nx r.o.wr) (rng nx (r.o.nx - nx)))) := fun w hw => by
                refine ⟨nx, r.o.nx, hmx, Nat.le_refl _, fun e => ?_, fun id q o h1 h2 h3 => ?_, fun x hx => ?_⟩
                · by_cases e2 : r.o.nx = nx
                  · omega
                  · exact absurd e.symm (hne e2)
                · have h5 := (htop.lt id q o h1).2
                  by_cases hid : id < snx
                  · rw [hlo id hid] at h1
                    have := (hh.top.lt id q o h1).1; omega
                  · exact ⟨by show snx ≤ id; omega, h5⟩
                · rcases hD x hx with h | h
                  · exact .inr ((hw _ h).mono hle)
                  · exact .inl h
              cases wr' with
              | nil =>
                have hw0 : r.o.wr = [] := by
                  cases hq : r.o.wr with
                  | nil => rfl
                  | cons q l => obtain ⟨id, hid, _⟩ := hwr q (by rw [hq]; simp); cases hid
                have hw1 : ∀ q ∈ r.o.wr, WOK ν none q := fun q hq => by rw [hw0] at hq; cases hq
                simp only at h
                have hh' := half_add (k := k) (wr' := []) (lw' := r.o.wr) (fo := below nx r.o.wr) (Hs := Hs) (es' := addE k (some lk) none snx snx' es) hh hlo hnw (Nat.le_trans hup hmx) hsup htop hwr hhas' hD' addE_old (fun _ => ⟨_, addE_new (.inl (by simp)), rfl, ent none hw1⟩) (fun _ => ⟨_, addE_new (.inl (by simp)), rfl, hL.mono hle⟩) (fun h1 => absurd (by rw [hw0]; rfl) h1)
                obtain ⟨L', nx', lw', g', ν', s', es', e, r1⟩ := sDrawn_ok hc h hF2 hh'
                refine ⟨L', nx', lw', g', ν', s', es', ?_, r1⟩
                rw [evDrawn_step hw hm hsc hev hup hmx hhas (fun i fo hi => h4 hi) (fun h1 => absurd (by rw [hw0]; rfl) h1) hp]
                exact e
              | cons x l =>
                simp only at h
                cases hb : mayWrite M m (some lk) es
                · simp only [hb, cond_false] at h
                · simp only [hb, cond_true] at h
                  have hh' := half_add (k := k) (wr' := x :: l) (lw' := r.o.wr) (fo := below nx r.o.wr) (Hs := Hs) (es' := addE k (some lk) (some lk) snx snx' es) hh hlo hnw (Nat.le_trans hup hmx) hsup htop hwr hhas' hD' addE_old (fun _ => ⟨_, addE_new (.inl (by simp)), rfl, ent _ hW⟩) (fun _ => ⟨_, addE_new (.inl (by simp)), rfl, hL.mono hle⟩) (fun _ => ⟨_, addE_new (.inl (by simp)), rfl, fun q hq => (hW q (mem_below.1 hq).1).mono hle⟩)
                  obtain ⟨L', nx', lw', g', ν', s', es', e, r1⟩ := sDrawn_ok hc h hF2 hh'
                  refine ⟨L', nx', lw', g', ν', s', es', ?_, r1⟩
                  rw [evDrawn_step hw hm hsc hev hup hmx hhas (fun i fo hi => h4 hi) (fun _ i Hi hi => half_hs hh hb ((hfo (by simp)).imp_left (congrArg some)) hi) hp]
                  exact e
            cases lk with
            | some id₀ =>
              simp only [mayGo, Bool.and_eq_true] at hgo
              obtain ⟨so₀, hg₀⟩ := here_ok hgo.1
              cases hop : o.op <;> rw [hop] at h hk <;> simp only [looks] at hk <;> try (cases hk; done)
              case load t x =>
                simp only [sOp] at h
                obtain ⟨r, o', hx, o'', hr⟩ : ∃ r o', evO L x = some (.p r o') ∧ ∃ o'', ν id₀ = some (r, o'') := by
                  split at hk
                  · rename_i id off hx
                    cases hk
                    obtain ⟨lx, a, r, b, rfl⟩ := sO_ok hF hx
                    exact ⟨r, off, a, 0, b⟩
                  · rename_i id z i j hx
                    cases hk
                    obtain ⟨lx, a, r, o', b, _, rfl⟩ := sO_ok hF hx
                    exact ⟨r, _, a, o', b⟩
                  · cases hk
                have hE := half_old hh hg₀ hr hgo.2
                have hO : ∀ id so, looks T' (.load t x) = some (some id) → M.get id = some so → OS ν (one (heapOf m.testBit H₀ g.ds) r) id so := fun id so hl hg => by
                  have : id = id₀ := by
                    have hk' : looks T' (.load t x) = some (some id₀) := hk
                    rw [hk'] at hl; cases hl; rfl
                  subst this
                  refine ((hh.top.at_ id so hg).2).same fun r1 o1 lo h1 h2 => ?_
                  rw [hr] at h1; cases h1
                  exact got_one (by rw [hE]; exact h2)
                obtain ⟨v, lv, he, hv, h⟩ := sLoad_val (nx := nx) hF hO h
                refine common (Hs := one (heapOf m.testBit H₀ g.ds) r) (r := ⟨⟨lv, one (heapOf m.testBit H₀ g.ds) r, nx, []⟩, nx⟩) (ν' := ν) (v := v) (M' := M) (snx' := snx) (wr' := []) (by rw [hop]; simp only [scopeOf, hx]) (by rw [hop]; simp only [evOp, he, res]) (Nat.le_refl _) (Nat.le_refl _) (Nat.le_refl _) (fun _ _ => rfl) (fun id q o h1 h2 => by have := (hh.top.lt id q o h2).2; omega) hv ?_ (by simp) (by simp) (fun q lo hq => ?_) (fun h1 => absurd rfl h1) (fun hi => half_fs hh hg₀ hr hgo.2 hi) (.inr ⟨id₀, rfl, fun q lo hq => by rw [one_get hq]; exact ⟨o'', hr⟩⟩) (by simp) (fun h1 => absurd rfl h1) h
                · have e0 : delta (one (heapOf m.testBit H₀ g.ds) r) (ap' (below nx []) (rng nx (nx - nx))) = [] := delta_nil (by simp [below, ap', rng])
                  rw [e0]; exact hh.top
                · have := one_get hq; subst this
                  unfold one at hq
                  split at hq
                  · rename_i o2 h2
                    rw [Tr.get_set_same] at hq; cases hq
                    rw [← hE]; exact h2
                  · simp [Tr.get_l] at hq
              case store t x y =>
                simp only [sOp] at h
                obtain ⟨r, off, o'', hx0, hr0⟩ : ∃ r off o'', evO L x = some (.p r off) ∧ ν id₀ = some (r, o'') := by
                  split at hk
                  · rename_i id off hx
                    cases hk
                    obtain ⟨lx, a, r, b, rfl⟩ := sO_ok hF hx
                    exact ⟨r, off, 0, a, b⟩
                  · rename_i id z i j hx
                    cases hk
                    obtain ⟨lx, a, r, o', b, _, rfl⟩ := sO_ok hF hx
                    exact ⟨r, _, o', a, b⟩
                  · cases hk
                have hE := half_old hh hg₀ hr0 hgo.2
                obtain ⟨id, r1, so, so', lo', hg, hm1, hm2, hr, ⟨o', hx⟩, ⟨lo, hlo⟩, hos, he, h⟩ := sStore_val (nx := nx) (H' := one (heapOf m.testBit H₀ g.ds) r) hF (fun id r o hr => (hh.top.lt id r o hr).1) (fun id so r1 o' o2 hx hr hg => by
                  rw [hx0] at hx; cases hx
                  refine ((hh.top.at_ id so hg).2).same fun r1 o1 lo h1 h2 => ?_
                  rw [hr] at h1; cases h1
                  exact got_one (by rw [hE]; exact h2)) h
                have er : r1 = r := by rw [hx0] at hx; cases hx; rfl
                subst er
                obtain rfl : id = id₀ := hh.top.inj id id₀ r1 0 o'' _ so₀ hg hm1 hg₀ hr hr0
                refine common (Hs := one (heapOf m.testBit H₀ g.ds) r1) (r := ⟨⟨.tup [], (one (heapOf m.testBit H₀ g.ds) r1).set r1 (some lo'), nx, [r1]⟩, nx⟩) (ν' := ν) (v := .tup []) (M' := M.set id (some so')) (snx' := snx) (wr' := [id]) (by rw [hop]; simp only [scopeOf, hx0]) (by rw [hop]; simp only [evOp, he, res]) (Nat.le_refl _) (Nat.le_refl _) (Nat.le_refl _) (fun _ _ => rfl) (fun id q o h1 h2 => by have := (hh.top.lt id q o h2).2; omega) ⟨[], rfl, rfl⟩ ?_ (fun q hq => ⟨id, by simp, 0, by simp at hq; subst hq; exact hr⟩) (fun q hq => by simp at hq; subst hq; exact .inr ⟨lo, hlo⟩) (fun q lo hq => ?_) (fun h1 => absurd rfl h1) (fun hi => half_fs hh hg₀ hr hgo.2 hi) (.inr ⟨id, rfl, fun q lo hq => by rw [one_get hq]; exact ⟨0, hr⟩⟩) (fun q hq => .inr ⟨id, 0, rfl, by simp at hq; subst hq; exact hr⟩) (fun _ => .inr ⟨id, r1, _, rfl, hg, hm1, hr, fun q hq => by simpa using (mem_below.1 hq).1⟩) h
                · have hrl : r1 < nx := (hh.top.lt id r1 0 hr).1
                  have e0 : delta ((one (heapOf m.testBit H₀ g.ds) r1).set r1 (some lo')) (ap' (below nx [r1]) (rng nx (nx - nx))) = [(r1, some lo')] := by
                    have hb : Nat.blt r1 nx = true := by simpa using hrl
                    have : ap' (below nx [r1]) (rng nx (nx - nx)) = [r1] := by simp [below, hb, ap', rng]
                    rw [this, delta_cons, Tr.get_set_same]; rfl
                  rw [e0, applyD_cons]
                  exact hs_write hh.top hg hm1 hm2 hr (hos _ (Tr.get_set_same _ _ _))
                · have := one_get hq; subst this
                  unfold one at hq
                  split at hq
                  · rename_i o2 h2
                    rw [Tr.get_set_same] at hq; cases hq
                    rw [← hE]; exact h2
                  · simp [Tr.get_l] at hq
              case call c =>
                obtain ⟨callee, args, ts⟩ := c
                cases callee with
                | value f => cases hk
                | invoke x m => cases hk
                | builtin b => cases b <;> cases hk
            | none =>
              simp only [mayGo] at hgo
              have hE := half_all hh hgo
              have hM : HS ν M snx (heapOf m.testBit H₀ g.ds) nx := by rw [hE]; exact hh.top
              have called : ∀ {c : Call}, scopeOf L m.testBit H₀ g.ds o.op = heapOf m.testBit H₀ g.ds → o.op = .call c → ∀ {K : KS (stdA fs ov)}, sCallee P (noR cs) T' M snx c K → ∃ (r : Res) (ν' : Nm) (v : SV (stdA fs ov)) (M' : SH (stdA fs ov)) (snx' : Nat) (wr' : List Nat), evOp P call L (heapOf m.testBit H₀ g.ds) nx o.op = some r ∧ r.o.nx ≤ r.mx ∧ Got ν snx (heapOf m.testBit H₀ g.ds) nx ν' v M' snx' wr' r.o ∧ HS ν' M' snx' (applyD (heapOf tops H₀ g.ds) (delta r.o.H (ap' (below nx r.o.wr) (rng nx (r.o.nx - nx))))) r.mx ∧ K v M' snx' wr' := by
                intro c hsc hop K h
                obtain ⟨r, he, hmx, o1, ν', v, M', snx', wr', e1, hG, h⟩ := sCallee_ok (P := P) hc hF hM h
                cases e1
                refine ⟨r, ν', v, M', snx', wr', by rw [hop]; simp only [evOp]; exact he, hmx, hG, ?_, h⟩
                refine hG.hs.same (fun q hq => ?_) hmx
                rw [get_applyD]
                split
                · rfl
                · rename_i hn
                  rw [ap'_eq, List.mem_append, not_or] at hn
                  have hq' : q < nx := by
                    have := hn.2; rw [mem_rng] at this; have := hG.up; omega
                  rw [← hE]
                  exact (hG.keep q hq' fun hq2 => hn.1 (mem_below.2 ⟨hq2, hq'⟩)).symm
              cases hop : o.op <;> rw [hop] at h hk <;> simp only [looks] at hk <;> try (cases hk; done)
              case load t x =>
                simp only [sOp, sLoad] at h
                split at h
                · rename_i h1; simp [h1] at hk
                · rename_i h1; simp [h1] at hk
                · exact h.elim
              case store t x y =>
                simp only [sOp, sStore] at h
                split at h
                · rename_i h1 _ _; simp [h1] at hk
                · rename_i h1 _ _; simp [h1] at hk
                · exact h.elim
              case call c =>
                have hsc : scopeOf L m.testBit H₀ g.ds o.op = heapOf m.testBit H₀ g.ds := by
                  rw [hop]
                  obtain ⟨callee, args, ts⟩ := c
                  cases callee with
                  | invoke x m => cases hk
                  | builtin b => cases b <;> first | rfl | cases hk
                  | value f => rfl
                simp only [sOp] at h
                obtain ⟨r, ν', v, M', snx', wr', he, hmx, hG, htop, h⟩ := called hsc hop h
                exact common (Hs := heapOf m.testBit H₀ g.ds) (r := r) (ν' := ν') (v := v) (M' := M') (snx' := snx') (wr' := wr') hsc he hmx hG.up hG.sup hG.lo hG.nw hG.v htop hG.wr (fun q hq => hG.has q hq) (fun q o hq => by rw [← hE]; exact hq) hG.same (fun hi => half_fs_all hh hgo hi) (.inl rfl) (fun q hq => .inl rfl) (fun _ => .inl rfl) h
    · obtain ⟨T2, L2, hp, hF2, h⟩ := sPut_ok hF h (show VS ν (.tup []) (.tup []) from ⟨[], rfl, rfl⟩)
      obtain ⟨L', nx', lw', g', ν', s', es', e, r1⟩ := sDrawn_ok hc h hF2 hh
      refine ⟨L', nx', lw', g', ν', s', es', ?_, r1⟩
      obtain ⟨ds, hl, fl⟩ := g
      simp only [evDrawn, hw, hp, nN_eq]
      exact e
end Go.Rx

set_option linter.unusedSimpArgs false
set_option linter.unusedVariables false
set_option linter.unusedSectionVars false
namespace Go.Rx
open Go
variable {fs : Fs} {ov : Bool} {ν : Nm} {P : Program} {T : Al (SV (stdA fs ov))} {L : Tr LV} {M : SH (stdA fs ov)} {H : Hp} {snx nx : Nat} {W : Nat → Prop}

theorem sRegion_ok {cs : CallS (stdA fs ov)} {call : CallT} (hc : CallSOK cs call) {ops : Array Oper} {draw : Bool} {s : SS (stdA fs ov)} {S : Rx.S} {K : SS (stdA fs ov) → Prop} (h : sRegion P cs ops draw s K) (hs : Sim W ν s S) :
    ∃ S' ν' s', evRegion P call ops draw S = some (.normal, S') ∧ XT ν s S ν' s' S' ∧ Sim W ν' s' S' ∧ K s' := by
  cases draw with
  | false =>
    obtain ⟨S', ν', s', h1, h2⟩ := sOps_ok hc h hs
    exact ⟨S', ν', s', by simp only [evRegion, h1], h2⟩
  | true =>
    simp only [sRegion, Tr.force_eq] at h
    cases hr : regOK ops (masksFrom ops.toList 0 .l) with
    | false => simp only [hr, cond_false] at h <;> exact h.elim
    | true =>
      simp only [hr, cond_true] at h
      obtain ⟨T, N, M, snx, wr⟩ := s
      obtain ⟨L, N', H, nx, lw, df, mx⟩ := S
      obtain rfl : N' = N := hs.N
      have hh : Half W ν snx nx H lw wr ν M snx nx wr lw [] ⟨[], [], []⟩ :=
        ⟨hs.H, fun i D hi => (by cases hi), fun i Hi hi => (by cases hi), fun i fo hi => (by cases hi), fun _ _ => rfl, fun id q o h1 h2 => (by have := (hs.H.lt id q o h2).2; dsimp only at this; omega), Nat.le_refl _, Nat.le_refl _, hs.wr, fun _ h => h, fun _ _ _ => rfl, fun _ h => h, fun _ _ _ => rfl, fun q hq => .inl hq, fun id r o h => hs.H.lt id r o h⟩
      obtain ⟨L', nx', lw', g', ν', s', es', e, hF, hh', hN, hK⟩ := sDrawn_ok (H₁ := H) (df := df) (mx := mx) hc h hs.T hh
      obtain ⟨ds, hl, fl⟩ := g'
      refine ⟨⟨L', N', heapOf tops H ds, nx', lw', df, more' mx nx'⟩, ν', s', ?_, ⟨hh'.lo, fun id q o h1 h2 => .inl (hh'.nw id q o h1 h2), hh'.up, hh'.sup, hh'.mono, hh'.swr, hh'.keepS, hh'.keep, hh'.has, .of rfl⟩, ⟨hN.symm, hF, hh'.top, (more'_le _ _).2, hh'.wrs, fun q hq => hs.wup q (Nat.le_trans hh'.up hq)⟩, hK⟩
      simp only [evRegion, evDraw, Tr.force_eq, hr, cond_true, e, nN_eq]
def GoC (W : Nat → Prop) (ν : Nm) (s : SS (stdA fs ov)) (S : Rx.S) (K : Ex → SS (stdA fs ov) → Prop) (x : Option (Ex × Rx.S)) : Prop := ∃ e S' ν' s', x = some (e, S') ∧ XT ν s S ν' s' S' ∧ Sim W ν' s' S' ∧ K e s'
/-- What is told of the loops of a text is so. -/
def LoopsOK (P : Program) (call : CallT) (L : Nat) (root : Code) (lp : LoopS (stdA fs ov)) : Prop := ∀ p rg f, lp p = some (rg, f) → ∀ c ro, (rg = false → ro = none) → codeAt root p = some (.loop c) → ∀ s K W ν S, f c s K → Sim W ν s S → GoC W ν s S K (evLoop L (fun s => evC P call ro L c s) S)
theorem GoC.then {s : SS (stdA fs ov)} {S : Rx.S} {K K' : Ex → SS (stdA fs ov) → Prop} {x y : Option (Ex × Rx.S)} (h : GoC W ν s S K x) (hy : ∀ e S' ν' s', x = some (e, S') → Sim W ν' s' S' → K e s' → GoC W ν' s' S' K' y) : GoC W ν s S K' y := by
  obtain ⟨e, S', ν', s', h1, h2, h3, h4⟩ := h
  obtain ⟨e2, S2, ν2, s2, k1, k2, k3, k4⟩ := hy e S' ν' s' h1 h3 h4
  exact ⟨e2, S2, ν2, s2, k1, h2.trans h3 k2, k3, k4⟩
theorem goC_stop {s : SS (stdA fs ov)} {S : Rx.S} {K : Ex → SS (stdA fs ov) → Prop} {e : Ex} (hs : Sim W ν s S) (hK : K e s) {x : Option (Ex × Rx.S)} (hx : x = some (e, S)) : GoC W ν s S K x := ⟨e, S, ν, s, hx, XT.refl hs.H, hs, hK⟩
theorem unroll_ok {body : SS (stdA fs ov) → (Ex → SS (stdA fs ov) → Prop) → Prop} {f : Rx.S → Option (Ex × Rx.S)} (hb : ∀ s K ν S, body s K → Sim W ν s S → GoC W ν s S K (f S)) :
    ∀ {n m : Nat} {s : SS (stdA fs ov)} {K : Ex → SS (stdA fs ov) → Prop} {ν : Nm} {S : Rx.S}, unroll (A := stdA fs ov) body n s K → n ≤ m → Sim W ν s S → GoC W ν s S K (evLoop m f S)
  | 0, _, _, _, _, _, h, _, _ => h.elim
  | n + 1, 0, _, _, _, _, _, hm, _ => absurd hm (by omega)
  | n + 1, m + 1, s, K, ν, S, h, hm, hs => by
    simp only [unroll] at h
    refine (hb _ _ ν S h hs).then fun e S' ν' s' h1 h2 h3 => ?_
    simp only [evLoop, h1]
    cases e with
    | normal => exact unroll_ok hb h3 (by omega) h2
    | exit j => exact goC_stop h2 h3 rfl
    | goto j => exact goC_stop h2 h3 rfl
    | ret => exact goC_stop h2 h3 rfl
theorem sKnow_ok {c : Operand} {x : Bool} {s : SS (stdA fs ov)} {S : Rx.S} {K : SS (stdA fs ov) → Prop} (h : sKnow c x s K) (hs : Sim W ν s S) (hx : sO s.T c = some (.b x)) : ∃ s', (s'.nx = s.nx ∧ s'.wr = s.wr) ∧ Sim W ν s' S ∧ K s' := by
  unfold sKnow at h
  cases c with
  | tmp t =>
    simp only [Al.force_eq] at h
    exact ⟨⟨s.T.set t (some (.b x)), s.N, s.H, s.nx, s.wr⟩, ⟨rfl, rfl⟩, ⟨hs.N, fs_know hs.T hx, hs.H, hs.mx, hs.wr, hs.wup⟩, h⟩
  | _ => exact ⟨s, ⟨rfl, rfl⟩, hs, h⟩
theorem GoC.know {s s' : SS (stdA fs ov)} {S : Rx.S} {K : Ex → SS (stdA fs ov) → Prop} {x : Option (Ex × Rx.S)} (e : s'.nx = s.nx ∧ s'.wr = s.wr) (h : GoC W ν s' S K x) : GoC W ν s S K x := by
  obtain ⟨e1, S', ν', s1, h1, h2, h3, h4⟩ := h
  obtain ⟨a, b⟩ := e
  exact ⟨e1, S', ν', s1, h1, ⟨a ▸ h2.lo, a ▸ h2.nw, h2.up, a ▸ h2.sup, h2.wr, b ▸ h2.swr, h2.keepS, h2.keep, h2.has, h2.df⟩, h3, h4⟩
theorem HS.same' {H' : Hp} (hM : HS ν M snx H nx) (hk : ∀ id r o, ν id = some (r, o) → H'.get r = H.get r) : HS ν M snx H' nx :=
  ⟨fun id so h => ⟨(hM.at_ id so h).1, (hM.at_ id so h).2.same fun r o lo h1 h2 => by rw [hk id r o h1]; exact h2⟩, hM.lt, hM.inj⟩
theorem HS.kill (hM : HS ν M snx H nx) {id r : Nat} {so : SO (stdA fs ov)} {lo : Option LO} (hg : M.get id = some so) (hm : so.mine = true) (hr : ν id = some (r, 0)) : HS ν (M.set id none) snx (H.set r lo) nx := by
  refine ⟨fun id' so' h => ?_, hM.lt, fun id1 id2 r1 o1 o2 so1 so2 h1 h2 h3 h4 h5 => ?_⟩
  · rw [Al.get_set] at h
    split at h
    · cases h
    · rename_i hne
      obtain ⟨a, b⟩ := hM.at_ id' so' h
      refine ⟨a, b.sub (fun _ _ h => h) rfl fun r' o' lo' c1 c2 => ?_⟩
      rw [Tr.get_set_ne _ _ fun e => ?_]; exact c2
      subst e
      exact hne (hM.inj id id' r' 0 o' so so' hg hm h hr c1).symm
  · have old : ∀ {j o}, (M.set id none).get j = some o → M.get j = some o := fun {j o} h => by
      rw [Al.get_set] at h
      split at h
      · cases h
      · exact h
    exact hM.inj id1 id2 r1 o1 o2 so1 so2 (old h1) h2 (old h3) h4 h5
theorem rngAt_of {g : Nat} {p : List Bool} {fn : Func} {root : Code} {f : Operand} {ps : Array Tmp} {as body : Code} (h1 : P.funcs[g]? = some fn) (h2 : fn.body = some root) (h3 : codeAt root p = some (.rangeFunc f ps as body)) : rngAt P g p = some (ps, as, body) := by
  simp only [rngAt, h1, h2, h3]
/-- A range over a function. -/
theorem sRange_ok {cs : CallS (stdA fs ov)} {call : CallT} (hc : CallSOK cs call) {g : FuncId} {p : List Bool} {f : Operand} {ps : Array Tmp} {as body : Code} (hrng : fs.rng g p = some (ps, as, body)) {s : SS (stdA fs ov)} {S : Rx.S} {K : Ex → SS (stdA fs ov) → Prop} {g' : FuncId} {cap : List (SV (stdA fs ov))} (hf : sO s.T f = some (.fn g' [] cap))
    {KK : KS (stdA fs ov)} (h : cs (.f g') (.yld s.nx :: cap) (s.H.set s.nx (some (.frm g p s.N s.T false .normal))) (s.nx + 1) KK)
    (hKK : ∀ v H nx wr, KK v H nx wr → ∃ g1 p1 N1 T1 e, H.get s.nx = some (.frm g1 p1 N1 T1 false e) ∧ K e ⟨s.T, s.N, H.set s.nx none, nx, addW [s.nx] (addW wr s.wr)⟩) (hs : Sim W ν s S) : GoC W ν s S K (evRange call none f ps as body S) := by
  obtain ⟨T, N, M, snx, wr⟩ := s
  obtain ⟨L, N', H, nx, lw, df, mx⟩ := S
  obtain rfl : N' = N := hs.N
  have hM0 : HS ν M snx H nx := hs.H
  obtain ⟨lf, e1, e2⟩ := sO_ok hs.T hf
  obtain ⟨a', c', rfl, e3, e4⟩ := e2
  obtain rfl : a' = [] := e3
  have hM1 : HS ν M snx (H.set nx (some .dfr)) (nx + 1) := hM0.same (fun r hr => Tr.get_set_ne _ _ (by omega)) (Nat.le_succ _)
  obtain ⟨hM2, hle1⟩ := hs_new (so := .frm g p N' T false .normal) (lo := .loop .ready none N' L ps as body nx) hM1 (fun ν' hle hn H' hH => ⟨nx + 1, ps, as, body, nx, L, hn, hH, FS.up hs.T hle, hrng, fun h => by cases h⟩)
  have hVL : VSL (updN ν snx (some (nx + 1, 0))) (.yld snx :: cap) (.yld (nx + 1) :: c') := VSL.cons ⟨nx + 1, updN_same, rfl⟩ (e4.mono hle1)
  obtain ⟨r, ν', v, M', snx', wr', he, hmx, hG, h⟩ := hc.y g' _ _ _ _ h rfl _ _ _ _ hVL hM2
  obtain ⟨g1, p1, N1, T1, e, hg, h⟩ := hKK _ _ _ _ h
  · have hle2 : NLe (updN ν snx (some (nx + 1, 0))) ν' := hM2.le hG.lo
    have hle : NLe ν ν' := fun id x hx => hle2 id x (hle1 id x hx)
    have hlo : ∀ id, id < snx → ν' id = ν id := fun id hid => by rw [hG.lo id (show id < snx + 1 by omega), updN_ne (by omega)]
    have hl : ν' snx = some (nx + 1, 0) := by rw [hG.lo snx (show snx < snx + 1 by omega), updN_same]
    obtain ⟨_, r1, ps1, as1, body1, d1, L1, k1, k2, _⟩ := hG.hs.at_ snx _ hg
    rw [hl] at k1; cases k1
    have hnw : ∀ id q o, snx + 1 ≤ id → ν' id = some (q, o) → nx + 2 ≤ q ∨ ∃ id0 ∈ wr', id0 < snx + 1 ∧ ∃ o', ν' id0 = some (q, o') := fun id q o h1 h2 => hG.nw id q o h1 h2
    have hup : nx + 2 ≤ r.o.nx := hG.up
    -- blocks that are not written
    have hkeep : ∀ q, q < nx + 2 → q ∉ r.o.wr → r.o.H.get q = ((H.set nx (some .dfr)).set (nx + 1) (some (.loop .ready none N' L ps as body nx))).get q := fun q h1 h2 => hG.keep q h1 h2
    have hwr : ∀ q ∈ r.o.wr, ∃ id ∈ wr', ∃ o, ν' id = some (q, o) ∧ (q < nx ∨ q = nx + 1) := fun q hq => by
      obtain ⟨id, a, o, b⟩ := hG.wr q hq
      refine ⟨id, a, o, hle2 _ _ b, ?_⟩
      by_cases hid : id = snx
      · subst hid; rw [updN_same] at b; cases b; exact .inr rfl
      · rw [updN_ne hid] at b; exact .inl (hM0.lt id q o b).1
    have hdn : nx ∉ r.o.wr := fun hq => by obtain ⟨_, _, _, _, h⟩ := hwr nx hq; omega
    have hunn : ∀ id o, ν' id ≠ some (nx, o) := fun id o hid => by
      have low : ∀ id o, id < snx + 1 → ν' id ≠ some (nx, o) := fun id o hlt hid => by
        by_cases e : id = snx
        · subst e; rw [hl] at hid; cases hid
        · rw [hlo id (by omega)] at hid; have := (hM0.lt id nx o hid).1; omega
      by_cases hlt : id < snx + 1
      · exact low id o hlt hid
      · rcases hnw id nx o (by omega) hid with h1 | ⟨id0, _, h2, o', h3⟩
        · omega
        · exact low id0 o' h2 h3
    have hst : notBusy (bif false then LoopState.busy else e.st) = true := by cases e <;> rfl
    have hj : jump e.code = some e := by cases e <;> rfl
    have b1 : Nat.ble (nx + 2) r.o.nx = true := by simpa using hup
    have b2 : Nat.ble r.o.nx r.mx = true := by simpa using hmx
    obtain ⟨x, w, hxw⟩ : ∃ x w, addW [nx + 1] (addW r.o.wr lw) = x :: w := by
      cases hq : addW [nx + 1] (addW r.o.wr lw) with
      | nil => have : nx + 1 ∈ addW [nx + 1] (addW r.o.wr lw) := mem_addW.2 (.inl (by simp)); rw [hq] at this; cases this
      | cons x w => exact ⟨x, w, rfl⟩
    have hin : ∀ q, q ∈ x :: w ↔ q = nx + 1 ∨ q ∈ r.o.wr ∨ q ∈ lw := fun q => by
      rw [← hxw, mem_addW, mem_addW]; simp
    refine ⟨e, ⟨L, N', r.o.H.set (nx + 1) (some (.loop .exhausted e.code N1 L1 ps1 as1 body1 d1)), r.o.nx, x :: w, nx :: df, more' mx r.mx⟩, ν', _, ?_, ?_, ?_, h⟩
    · obtain ⟨⟨v', H', nx', lw'⟩, m⟩ := r
      simp only [evRange, e1, nN_eq, Tr.force_eq, he, endRange, k2, b1, b2, hst, Bool.and_true, cond_true, hj]
      dsimp only at hxw
      rw [hxw]
    · refine ⟨hlo, fun id q o h1 h2 => ?_, by show nx ≤ r.o.nx; omega, by show snx ≤ snx'; have := hG.sup; omega, fun q hq => (hin q).2 (.inr (.inr hq)), fun id hid => mem_addW.2 (.inr (mem_addW.2 (.inr hid))), fun q hq hn => ?_, fun q hq hn => ?_, fun q hq => ?_, ⟨[nx], rfl, by simp, fun d hd => ?_⟩⟩
      · by_cases hid : id = snx
        · subst hid; rw [hl] at h2; cases h2; left; show nx ≤ nx + 1; omega
        · rcases hnw id q o (by dsimp only at h1; omega) h2 with h3 | ⟨id0, a, b, o', c⟩
          · left; show nx ≤ q; omega
          · by_cases h0 : id0 = snx
            · subst h0; rw [hl] at c; cases c; left; show nx ≤ nx + 1; omega
            · exact .inr ⟨id0, mem_addW.2 (.inr (mem_addW.2 (.inl a))), by show id0 < snx; omega, o', c⟩
      · show (r.o.H.set _ _).get q = H.get q
        have hq' : q < nx := hq
        rw [Tr.get_set_ne _ _ (by omega), hkeep q (by omega) fun hq2 => ?_, Tr.get_set_ne _ _ (by omega), Tr.get_set_ne _ _ (by omega)]
        obtain ⟨id, a, o, b, _⟩ := hwr q hq2
        exact hn id (mem_addW.2 (.inr (mem_addW.2 (.inl a)))) o b
      · show (r.o.H.set _ _).get q = H.get q
        have hq' : q < nx := hq
        rw [Tr.get_set_ne _ _ (by omega), hkeep q (by omega) fun hq2 => hn ((hin q).2 (.inr (.inl hq2))), Tr.get_set_ne _ _ (by omega), Tr.get_set_ne _ _ (by omega)]
      · rcases (hin q).1 hq with rfl | hq | hq
        · right; left; show nx ≤ nx + 1; omega
        · rcases hG.has q hq with h3 | ⟨o, h3⟩
          · right; left; show nx ≤ q; omega
          · by_cases hlt : nx ≤ q
            · exact .inr (.inl hlt)
            · rw [Tr.get_set_ne _ _ (by omega), Tr.get_set_ne _ _ (by omega)] at h3
              exact .inr (.inr ⟨o, h3⟩)
        · exact .inl hq
      · simp at hd; subst hd
        refine ⟨Nat.le_refl _, by show d < r.o.nx; omega, ?_, hunn⟩
        show (r.o.H.set _ _).get d = _
        rw [Tr.get_set_ne _ _ (by omega), hkeep d (by omega) hdn, Tr.get_set_ne _ _ (by omega), Tr.get_set_same]
    · refine ⟨rfl, FS.up hs.T hle, hG.hs.kill hg rfl hl, Nat.le_trans hmx (more'_le _ _).2, fun q hq => ?_, fun q hq => hs.wup q (by show nx ≤ q; have : r.o.nx ≤ q := hq; omega)⟩
      rcases (hin q).1 hq with rfl | hq | hq
      · exact .inl (hs.wup _ (by show nx ≤ nx + 1; omega))
      · obtain ⟨id, a, o, b, _⟩ := hwr q hq
        exact .inr ⟨id, mem_addW.2 (.inr (mem_addW.2 (.inl a))), o, b⟩
      · rcases hs.wr q hq with hW | ⟨id, a, o, b⟩
        · exact .inl hW
        · exact .inr ⟨id, mem_addW.2 (.inr (mem_addW.2 (.inr a))), o, hle _ _ b⟩
theorem sCode_ok {cs : CallS (stdA fs ov)} {call : CallT} (hc : CallSOK cs call) {root : Code} {lp : LpG (stdA fs ov)} {L U : Nat} (hl : LoopsOK P call L root lp.at_) (hr : ∀ p x, lp.rg = false → rngAt P lp.g p = some x → fs.rng lp.g p = some x) (hroot : ∃ fn, P.funcs[lp.g]? = some fn ∧ fn.body = some root) (hU : U ≤ L) {ro : Option Nat} (hro : lp.rg = false → ro = none) :
    ∀ {c : Code} {p : List Bool} {s : SS (stdA fs ov)} {S : Rx.S} {K : Ex → SS (stdA fs ov) → Prop} {ν : Nm}, sCode P cs lp U p c s K → codeAt root p = some c → Sim W ν s S → GoC W ν s S K (evC P call ro L c S)
  | .skip, p, s, S, K, ν, h, hp, hs => goC_stop hs h rfl
  | .region id ops draw, p, s, S, K, ν, h, hp, hs => by
    obtain ⟨S', ν', s', h1, h2, h3, h4⟩ := sRegion_ok hc h hs
    exact ⟨.normal, S', ν', s', h1, h2, h3, h4⟩
  | .seq a b, p, s, S, K, ν, h, hp, hs => by
    simp only [sCode] at h
    refine (sCode_ok (ro := ro) hc hl hr hroot hU hro h (by simp [codeAt, hp]) hs).then fun e S' ν' s' h1 h2 h3 => ?_
    simp only [evC, h1]
    cases e with
    | normal => exact sCode_ok (ro := ro) hc hl hr hroot hU hro h3 (by simp [codeAt, hp]) h2
    | exit j => exact goC_stop h2 h3 rfl
    | goto j => exact goC_stop h2 h3 rfl
    | ret => exact goC_stop h2 h3 rfl
  | .cond c a b, p, s, S, K, ν, h, hp, hs => by
    simp only [sCode] at h
    split at h
    · rename_i x hx
      obtain ⟨lv, h1, h2⟩ := sO_ok hs.T hx
      obtain rfl := h2
      have h' : cond x _ _ := h
      simp only [evC, h1]
      cases x
      · obtain ⟨s', e, hs', h⟩ := sKnow_ok (show sKnow c false s (fun s => sCode P cs lp U (true :: p) b s K) from h') hs hx
        exact GoC.know e (sCode_ok (ro := ro) hc hl hr hroot hU hro h (by simp [codeAt, hp]) hs')
      · obtain ⟨s', e, hs', h⟩ := sKnow_ok (show sKnow c true s (fun s => sCode P cs lp U (false :: p) a s K) from h') hs hx
        exact GoC.know e (sCode_ok (ro := ro) hc hl hr hroot hU hro h (by simp [codeAt, hp]) hs')
    · exact h.elim
  | .block id c, p, s, S, K, ν, h, hp, hs => by
    simp only [sCode] at h
    refine (sCode_ok (ro := ro) hc hl hr hroot hU hro h (by simp [codeAt, hp]) hs).then fun e S' ν' s' h1 h2 h3 => ?_
    simp only [evC, h1]
    cases e with
    | normal => exact goC_stop h2 h3 rfl
    | exit j =>
      simp only at h3 ⊢
      cases hj : Nat.beq j id
      · simp only [hj, cond_false] at h3 ⊢; exact goC_stop h2 h3 rfl
      · simp only [hj, cond_true] at h3 ⊢; exact goC_stop h2 h3 rfl
    | goto j => exact goC_stop h2 h3 rfl
    | ret => exact goC_stop h2 h3 rfl
  | .loop c, p, s, S, K, ν, h, hp, hs => by
    simp only [sCode] at h
    cases hf : lp.at_ p with
    | some x =>
      obtain ⟨rg, f⟩ := x
      simp only [hf] at h
      split at h
      · exact hl p true f hf c ro (fun e => by cases e) hp s K W ν S h hs
      · rename_i h1
        exact hl p false f hf c ro (fun _ => hro h1) hp s K W ν S h hs
      · exact h.elim
    | none =>
      simp only [hf] at h
      simp only [evC]
      exact unroll_ok (fun s K ν S hb hs => sCode_ok (ro := ro) hc hl hr hroot hU hro hb (by simp [codeAt, hp]) hs) h hU hs
  | .exit id, p, s, S, K, ν, h, hp, hs => goC_stop hs h rfl
  | .scope c, p, s, S, K, ν, h, hp, hs => by
    simp only [sCode] at h
    refine (sCode_ok (ro := ro) hc hl hr hroot hU hro h (by simp [codeAt, hp]) hs).then fun e S' ν' s' h1 h2 h3 => ?_
    simp only [evC, h1]
    cases e with
    | normal => exact goC_stop h2 h3 rfl
    | exit j => exact goC_stop h2 h3 rfl
    | goto j => exact h3.elim
    | ret => exact goC_stop h2 h3 rfl
  | .label l, p, s, S, K, ν, h, hp, hs => goC_stop hs h rfl
  | .goto l, p, s, S, K, ν, h, hp, hs => goC_stop hs h rfl
  | .ret, p, s, S, K, ν, h, hp, hs => goC_stop hs h rfl
  | .rangeFunc f ps as body, p, s, S, K, ν, h, hp, hs => by
    simp only [sCode] at h
    split at h
    · rename_i g' cap h1 hf
      simp only [Al.force_eq] at h
      obtain ⟨fn, k1, k2⟩ := hroot
      rw [hro h1]
      refine sRange_ok hc (hr p _ h1 (rngAt_of k1 k2 hp)) hf h (fun v H nx wr h => ?_) hs
      split at h
      · rename_i g1 p1 N1 T1 e hg
        exact ⟨g1, p1, N1, T1, e, hg, h⟩
      · exact h.elim
    · exact h.elim
  | .refuse _, p, s, S, K, ν, h, hp, hs => h.elim

/-- What is to be known of the text around. -/
structure CtxOK (P : Program) (call : CallT) (L : Nat) (root : Code) (lp : LpG (stdA fs ov)) (ro : Option Nat) : Prop where
  hl : LoopsOK P call L root lp.at_
  hr : ∀ p x, lp.rg = false → rngAt P lp.g p = some x → fs.rng lp.g p = some x
  hroot : ∃ fn, P.funcs[lp.g]? = some fn ∧ fn.body = some root
  hro : lp.rg = false → ro = none
theorem ctx_of {call : CallT} {L : Nat} {root : Code} {g : FuncId} {rg : Bool} {at_ : LoopS (stdA fs ov)} {ro : Option Nat} {fn : Func} (hl : LoopsOK P call L root at_) (h1 : P.funcs[g]? = some fn) (h2 : fn.body = some root) (hro : rg = false → ro = none) (hfs : fs.rng = rngAt P := by rfl) : CtxOK P call L root (⟨g, rg, at_⟩ : LpG (stdA fs ov)) ro :=
  ⟨hl, fun p x _ h => by rw [hfs]; exact h, ⟨fn, h1, h2⟩, hro⟩

/-! ### Calls -/
mutual
theorem vs_lt {ν' : Nm} {n m : Nat} (hl : ∀ id r o, id < n → ν' id = some (r, o) → r < m) : ∀ {x : SV (stdA fs ov)} {v : LV}, x.lt n = true → VS ν' x v → v.lt m = true
  | .b _, v, _, hv => by rw [show v = _ from hv]; rfl
  | .i _ _, v, _, hv => by rw [show v = _ from hv]; rfl
  | .s _, v, _, hv => by rw [show v = _ from hv]; rfl
  | .nilp, v, _, hv => by rw [show v = _ from hv]; rfl
  | .p id _, v, h, hv => by obtain ⟨r, h1, rfl⟩ := hv; have := hl id r 0 (by simpa [SV.lt] using h) h1; simpa [LV.lt] using this
  | .pe id _ _ _, v, h, hv => by obtain ⟨r, o, h1, _, rfl⟩ := hv; have := hl id r o (by simpa [SV.lt] using h) h1; simpa [LV.lt] using this
  | .nils, v, _, hv => by rw [show v = _ from hv]; rfl
  | .sl id _ _ _, v, h, hv => by obtain ⟨r, h1, rfl⟩ := hv; have := hl id r 0 (by simpa [SV.lt] using h) h1; simpa [LV.lt] using this
  | .ls _ id _, v, h, hv => by
    obtain ⟨h0, ⟨rfl, _⟩ | ⟨r, o, h1, ⟨_, rfl⟩ | ⟨_, c, _, rfl⟩⟩⟩ := hv
    · rfl
    · have := hl id r o (by simpa [SV.lt] using h) h1; simpa [LV.lt] using this
    · have := hl id r o (by simpa [SV.lt] using h) h1; simpa [LV.lt] using this
  | .fn _ a c, v, h, hv => by
    obtain ⟨a', c', rfl, h1, h2⟩ := hv
    simp only [SV.lt, Bool.and_eq_true] at h
    simp only [LV.lt, Bool.and_eq_true]
    exact ⟨vsl_lt hl h.1 h1, vsl_lt hl h.2 h2⟩
  | .yld id, v, h, hv => by obtain ⟨r, h1, rfl⟩ := hv; have := hl id r 0 (by simpa [SV.lt] using h) h1; simpa [LV.lt] using this
  | .nilf, v, _, hv => by rw [show v = _ from hv]; rfl
  | .nili, v, _, hv => by rw [show v = _ from hv]; rfl
  | .agg _, v, h, hv => by obtain ⟨l, rfl, h1⟩ := hv; exact vsl_lt hl (by simpa [SV.lt] using h) h1
  | .tup _, v, h, hv => by obtain ⟨l, rfl, h1⟩ := hv; exact vsl_lt hl (by simpa [SV.lt] using h) h1
theorem vsl_lt {ν' : Nm} {n m : Nat} (hl : ∀ id r o, id < n → ν' id = some (r, o) → r < m) : ∀ {l : List (SV (stdA fs ov))} {vs : List LV}, SV.ltL n l = true → VSL ν' l vs → LV.ltL m vs = true
  | [], vs, _, hv => by rw [show vs = [] from hv]; rfl
  | x :: l, vs, h, hv => by
    obtain ⟨y, r, rfl, h1, h2⟩ := hv
    simp only [SV.ltL, Bool.and_eq_true] at h
    simp only [LV.ltL, Bool.and_eq_true]
    exact ⟨vs_lt hl h.1 h1, vsl_lt hl h.2 h2⟩
end
mutual
theorem vs_low {ν' : Nm} {n : Nat} (hl : Lo n ν ν') : ∀ {x : SV (stdA fs ov)} {v : LV}, x.lt n = true → VS ν' x v → VS ν x v
  | .b _, v, _, hv => hv
  | .i _ _, v, _, hv => hv
  | .s _, v, _, hv => hv
  | .nilp, v, _, hv => hv
  | .p id _, v, h, hv => by obtain ⟨r, h1, rfl⟩ := hv; exact ⟨r, by rw [← hl id (by simpa [SV.lt] using h)]; exact h1, rfl⟩
  | .pe id _ _ _, v, h, hv => by obtain ⟨r, o, h1, h2, rfl⟩ := hv; exact ⟨r, o, by rw [← hl id (by simpa [SV.lt] using h)]; exact h1, h2, rfl⟩
  | .nils, v, _, hv => hv
  | .sl id _ _ _, v, h, hv => by obtain ⟨r, h1, rfl⟩ := hv; exact ⟨r, by rw [← hl id (by simpa [SV.lt] using h)]; exact h1, rfl⟩
  | .ls _ id _, v, h, hv => by
    have e := hl id (by simpa [SV.lt] using h)
    have hv' : LSr (ν' id) _ _ v := hv
    rw [e] at hv'; exact hv'
  | .fn _ a c, v, h, hv => by
    obtain ⟨a', c', rfl, h1, h2⟩ := hv
    simp only [SV.lt, Bool.and_eq_true] at h
    exact ⟨a', c', rfl, vsl_low hl h.1 h1, vsl_low hl h.2 h2⟩
  | .yld id, v, h, hv => by obtain ⟨r, h1, rfl⟩ := hv; exact ⟨r, by rw [← hl id (by simpa [SV.lt] using h)]; exact h1, rfl⟩
  | .nilf, v, _, hv => hv
  | .nili, v, _, hv => hv
  | .agg _, v, h, hv => by obtain ⟨l, rfl, h1⟩ := hv; exact ⟨l, rfl, vsl_low hl (by simpa [SV.lt] using h) h1⟩
  | .tup _, v, h, hv => by obtain ⟨l, rfl, h1⟩ := hv; exact ⟨l, rfl, vsl_low hl (by simpa [SV.lt] using h) h1⟩
theorem vsl_low {ν' : Nm} {n : Nat} (hl : Lo n ν ν') : ∀ {l : List (SV (stdA fs ov))} {vs : List LV}, SV.ltL n l = true → VSL ν' l vs → VSL ν l vs
  | [], vs, _, hv => hv
  | x :: l, vs, h, hv => by
    obtain ⟨y, r, rfl, h1, h2⟩ := hv
    simp only [SV.ltL, Bool.and_eq_true] at h
    exact ⟨y, r, rfl, vs_low hl h.1 h1, vsl_low hl h.2 h2⟩
end
theorem get_ltT {n : Nat} : ∀ {T : Al (SV (stdA fs ov))}, Al.ltT n T = true → ∀ {t : Nat} {v : SV (stdA fs ov)}, T.get t = some v → v.lt n = true
  | .l, _, t, v, h => by simp [Al.get_l] at h
  | .c k x r, hl, t, v, h => by
    simp only [Al.ltT, Bool.and_eq_true] at hl
    rw [show (Al.c k x r : Al (SV (stdA fs ov))) = Al.set r k x from rfl, Al.get_set] at h
    split at h
    · rw [h] at hl; exact hl.1
    · exact get_ltT hl.2 h
theorem fs_low {ν' : Nm} {n : Nat} {T : Al (SV (stdA fs ov))} {L : Tr LV} (hl : Lo n ν ν') (h : Al.ltT n T = true) (hF : FS ν' T L) : FS ν T L := ⟨fun t v ht => let ⟨lv, a, b⟩ := hF.at_ t v ht; ⟨lv, a, vs_low hl (get_ltT h ht) b⟩⟩
theorem OS.low {ν' : Nm} {n id : Nat} {so : SO (stdA fs ov)} (hl : Lo n ν ν') (hid : id < n) (h : so.lt n = true) (hO : OS ν' H id so) : OS ν H id so := by
  have e := hl id hid
  cases so with
  | row t cs =>
    obtain ⟨r, lcs, a1, a2, a3⟩ := hO
    exact ⟨r, lcs, by rw [← e]; exact a1, a2, vsl_low hl h a3⟩
  | list t ks own hh =>
    obtain ⟨a0, a1, a2⟩ := hO
    refine ⟨a0, a1.imp_right ?_, fun ho r o hr => a2 ho r o (by rw [e]; exact hr)⟩
    rintro ⟨r, o, lo, b1, b2, b3⟩
    exact ⟨r, o, lo, by rw [← e]; exact b1, b2, b3⟩
  | frm g p N T b e' =>
    obtain ⟨r, ps, as, body, d, L, a1, a2, a3, a4⟩ := hO
    exact ⟨r, ps, as, body, d, L, by rw [← e]; exact a1, a2, fs_low hl h a3, a4⟩
/-- What a call leaves. -/
theorem gc_eq {lv : LV} {H' : Hp} {nx' : Nat} {lw : List Nat} (hk : ∀ q, q < nx → q ∉ lw → H'.get q = H.get q) (hup : nx ≤ nx') :
    ∃ o, gc nx H lv H' nx' lw = o ∧ o.v = lv ∧ o.wr = below nx lw ∧ (∀ q, q < nx → o.H.get q = H'.get q) ∧ nx ≤ o.nx ∧ o.nx ≤ nx' ∧ (below nx lw = [] → lv.lt nx = true → o.nx = nx) ∧ (below nx lw = [] → lv.lt nx = false → o.H = H' ∧ o.nx = nx') := by
  refine ⟨_, rfl, ?_⟩
  have hk' : ∀ q, q < nx → q ∉ below nx lw → H'.get q = H.get q := fun q h1 h2 => hk q h1 fun h => h2 (mem_below.2 ⟨h, h1⟩)
  unfold gc
  generalize below nx lw = b at *
  cases b with
  | nil =>
    simp only
    cases hv : lv.lt nx
    · exact ⟨rfl, rfl, fun _ _ => rfl, hup, Nat.le_refl _, fun _ h => (by cases h), fun _ _ => ⟨rfl, rfl⟩⟩
    · exact ⟨rfl, rfl, fun q hq => (hk' q hq (by simp)).symm, Nat.le_refl _, hup, fun _ _ => rfl, fun _ h => by cases h⟩
  | cons x l =>
    simp only
    cases hv : (lv.lt nx && objsBelow nx H' H (x :: l))
    · refine ⟨by first | rfl | trivial, by first | rfl | trivial, fun _ _ => rfl, hup, Nat.le_refl _, fun h => (by cases h), fun h => by cases h⟩
    · simp only [cond_true, Tr.force_eq]
      refine ⟨by first | rfl | trivial, by first | rfl | trivial, fun q hq => ?_, Nat.le_refl _, hup, fun h => (by cases h), fun h => by cases h⟩
      rw [get_back]
      split
      · rfl
      · rename_i hn; exact (hk' q hq hn).symm
theorem sBack_ok {M' : SH (stdA fs ov)} : ∀ {l : List Nat} {M M1 : SH (stdA fs ov)}, sBack snx M' l M = some M1 → (∀ id, id ∉ l → M1.get id = M.get id) ∧ ∀ id ∈ l, ∃ o', M.get id = some o' ∧ o'.mine = true ∧ ∃ o, M'.get id = some o ∧ M1.get id = some o ∧ o.lt snx = true
  | [], M, M1, h => by simp [sBack] at h; subst h; exact ⟨fun _ _ => rfl, fun id h => by cases h⟩
  | x :: l, M, M1, h => by
    simp only [sBack] at h
    cases h0 : M.get x with
    | none => simp [h0] at h
    | some o' =>
      cases h1 : M'.get x with
      | none => simp [h0, h1] at h
      | some o =>
        simp only [h0, h1] at h
        cases hb : (o.lt snx && o'.mine && o.mine)
        · simp [hb] at h
        · simp only [hb, cond_true] at h
          simp only [Bool.and_eq_true] at hb
          obtain ⟨k1, k2⟩ := sBack_ok h
          refine ⟨fun id hid => ?_, fun id hid => ?_⟩
          · rw [k1 id fun e => hid (by simp [e]), Al.get_set_ne _ _ fun e => hid (by simp [e])]
          · by_cases hx : id ∈ l
            · obtain ⟨a, b, c, d, e, f, g⟩ := k2 id hx
              rw [Al.get_set] at b
              split at b
              · rename_i he; subst he; exact ⟨o', h0, hb.1.2, d, e, f, g⟩
              · exact ⟨a, b, c, d, e, f, g⟩
            · have : id = x := by simpa [hx] using hid
              subst this
              exact ⟨o', h0, hb.1.2, o, h1, by rw [k1 id hx, Al.get_set_same], hb.1.1⟩
end Go.Rx

set_option linter.unusedSimpArgs false
set_option linter.unusedVariables false
set_option linter.unusedSectionVars false
namespace Go.Rx
open Go
variable {fs : Fs} {ov : Bool} {ν : Nm} {P : Program} {T : Al (SV (stdA fs ov))} {L : Tr LV} {M : SH (stdA fs ov)} {H : Hp} {snx nx : Nat} {W : Nat → Prop}

theorem hs_back (hM : HS ν M snx H nx) {ν' : Nm} {M' M1 : SH (stdA fs ov)} {snx' nx' n : Nat} {H' H2 : Hp} {lw : List Nat} {wr : List Nat} (hM' : HS ν' M' snx' H' nx') (hlo : Lo snx ν ν') (hnw : ∀ id q o, snx ≤ id → ν' id = some (q, o) → nx ≤ q ∨ ∃ id0 ∈ wr, id0 < snx ∧ ∃ o', ν' id0 = some (q, o'))
    (hw : ∀ q ∈ lw, q < nx → ∃ id ∈ wr, ∃ o, ν' id = some (q, o)) (hk : ∀ q, q < nx → q ∉ lw → H'.get q = H.get q) (hb : sBack snx M' (below snx wr) M = some M1) (h2 : ∀ q, q < nx → H2.get q = H'.get q) (hn : nx ≤ n) {m : Nat} (hm : snx ≤ m) : HS ν M1 m H2 n := by
  obtain ⟨b1, b2⟩ := sBack_ok hb
  have hlt : ∀ {id r o}, ν id = some (r, o) → r < nx := fun h => (hM.lt _ _ _ h).1
  refine ⟨fun id so hg => ?_, fun id r o h => ⟨Nat.lt_of_lt_of_le (hM.lt id r o h).1 hn, Nat.lt_of_lt_of_le (hM.lt id r o h).2 hm⟩, fun id id' r o o' so so' h1 h3 h0 h4 h5 => ?_⟩
  · by_cases hid : id ∈ below snx wr
    · obtain ⟨o', m1, m2, o, m3, m4, m5⟩ := b2 id hid
      rw [hg] at m4; cases m4
      have hidn := (mem_below.1 hid).2
      refine ⟨by omega, ?_⟩
      exact (((hM'.at_ id so m3).2).low hlo hidn m5).same fun r o lo e1 e2 => by rw [h2 r (hlt e1)]; exact e2
    · rw [b1 id hid] at hg
      obtain ⟨hidn, hO⟩ := hM.at_ id so hg
      refine ⟨by omega, hO.same fun r o lo e1 e2 => ?_⟩
      rw [h2 r (hlt e1), hk r (hlt e1) fun hr => ?_]
      · exact e2
      · obtain ⟨id2, k1, hid2, o2, k2⟩ : ∃ id2 ∈ wr, id2 < snx ∧ ∃ o2, ν' id2 = some (r, o2) := by
          obtain ⟨id2, k1, o2, k2⟩ := hw r hr (hlt e1)
          by_cases h : id2 < snx
          · exact ⟨id2, k1, h, o2, k2⟩
          · rcases hnw id2 r o2 (by omega) k2 with h3 | h3
            · have := hlt e1; omega
            · exact h3
        obtain ⟨o', m1, m2, _⟩ := b2 id2 (mem_below.2 ⟨k1, hid2⟩)
        rw [hlo id2 hid2] at k2
        have := hM.inj id2 id r o2 o o' so m1 m2 hg k2 e1
        subst this
        exact hid (mem_below.2 ⟨k1, hid2⟩)
  · obtain ⟨so2, h2⟩ : ∃ so2, M.get id' = some so2 := by
      by_cases hid : id' ∈ below snx wr
      · obtain ⟨o1, m1, m2, _⟩ := b2 id' hid; exact ⟨_, m1⟩
      · rw [b1 id' hid] at h0; exact ⟨_, h0⟩
    by_cases hid : id ∈ below snx wr
    · obtain ⟨o1, m1, m2, _⟩ := b2 id hid
      exact hM.inj id id' r o o' o1 so2 m1 m2 h2 h4 h5
    · rw [b1 id hid] at h1
      exact hM.inj id id' r o o' so so2 h1 h3 h2 h4 h5
theorem rd_rows {ks : List CK} {h : Ll} {lcs news : List LV} {off : Nat} (h1 : Rx.tk (h.length * ks.length) (lcs.drop off) = some news) (h2 : Rows ks h news) : cellsOK lcs off ks h := fun i j k hi hj => by
  obtain ⟨e1, e2⟩ := tk_ok h1
  have hjl : j < ks.length := (List.getElem?_eq_some_iff.1 hj).1
  have hb2 : i * ks.length + j < h.length * ks.length := by
    have : (i + 1) * ks.length ≤ h.length * ks.length := Nat.mul_le_mul_right _ hi
    rw [Nat.add_mul, Nat.one_mul] at this
    omega
  have := h2.ok i j k hi hj
  rw [Nat.zero_add] at this
  subst e1
  rw [List.getElem?_take_of_lt hb2, List.getElem?_drop] at this
  rwa [Nat.add_assoc]
theorem litOf_ok {id off len cap : Nat} {e : TypeId} {ks : List CK} {g : Ll} (h : litOf (A := stdA fs ov) P M id off len cap = some (e, ks, g)) : ∃ t cs, M.get id = some (.row t cs) ∧ rowsOf (A := stdA fs ov) ks len (cs.drop off) = some g ∧ len ≤ cap := by
  unfold litOf at h
  split at h
  · rename_i t cs hg
    split at h
    · rename_i ks' hk
      cases hb : Nat.ble len cap with
      | false => rw [hb] at h; cases h
      | true =>
        rw [hb, cond_true] at h
        split at h
        · rename_i g' hr
          cases h
          exact ⟨_, cs, hg, hr, by simpa using hb⟩
        · cases h
    · cases h
  · cases h
theorem newP_ok {ν' : Nm} : ∀ {l : List (SV (stdA fs ov))} {ls : List LV}, newP snx l = true → VSL ν' l ls → ∃ id r off, snx ≤ id ∧ ν' id = some (r, 0) ∧ LV.p r off ∈ ls
  | [], _, h, _ => by simp [newP] at h
  | x :: l, ls, h, hv => by
    obtain ⟨y, rs, rfl, h1, h2⟩ := hv
    cases x with
    | p id off =>
      simp only [newP, Bool.or_eq_true] at h
      rcases h with h | h
      · obtain ⟨r, a, rfl⟩ := h1
        exact ⟨id, r, off, by simpa using h, a, by simp⟩
      · obtain ⟨id, r, off, a, b, c⟩ := newP_ok h h2
        exact ⟨id, r, off, a, b, List.mem_cons_of_mem _ c⟩
    | _ => simp [newP] at h
theorem ltL_false {n r off : Nat} : ∀ {l : List LV}, LV.p r off ∈ l → n ≤ r → LV.ltL n l = false
  | [], h, _ => by cases h
  | x :: l, h, hn => by
    simp only [LV.ltL]
    rcases List.mem_cons.1 h with rfl | h
    · have : LV.lt n (.p r off) = false := by
        simp only [LV.lt]
        rw [← Bool.not_eq_true]; simp; omega
      rw [this, Bool.false_and]
    · rw [ltL_false h hn, Bool.and_false]
theorem sLeave_ok (hM : HS ν M snx H nx) {ν' : Nm} {M' : SH (stdA fs ov)} {snx' nx' : Nat} {H' : Hp} {lw : List Nat} {wr : List Nat} {v : SV (stdA fs ov)} {lv : LV} {K : KS (stdA fs ov)} (hM' : HS ν' M' snx' H' nx') (hlo : Lo snx ν ν') (hnw : ∀ id q o, snx ≤ id → ν' id = some (q, o) → nx ≤ q ∨ ∃ id0 ∈ wr, id0 < snx ∧ ∃ o', ν' id0 = some (q, o')) (hup : nx ≤ nx')
    (hw : ∀ q ∈ lw, q < nx → ∃ id ∈ wr, ∃ o, ν' id = some (q, o)) (hk : ∀ q, q < nx → q ∉ lw → H'.get q = H.get q) (hhas : ∀ q ∈ lw, nx ≤ q ∨ ∃ o, H.get q = some o) (hv : VS ν' v lv) (h : sLeave P snx M v M' snx' wr K) :
    ∃ ν2 v2 M2 snx2 wr2, Got ν snx H nx ν2 v2 M2 snx2 wr2 (gc nx H lv H' nx' lw) ∧ K v2 M2 snx2 wr2 ∧ (gc nx H lv H' nx' lw).nx ≤ nx' := by
  obtain ⟨o, ho, g1, g2, g3, g4, g5, g6, g7⟩ := gc_eq (lv := lv) (nx' := nx') hk hup
  rw [ho]
  have hw' : ∀ q ∈ below nx lw, ∃ id ∈ below snx wr, ∃ o, ν id = some (q, o) := fun q hq => by
    obtain ⟨hq1, hq2⟩ := mem_below.1 hq
    obtain ⟨id, k1, hid, o, k2⟩ : ∃ id ∈ wr, id < snx ∧ ∃ o, ν' id = some (q, o) := by
      obtain ⟨id, k1, o, k2⟩ := hw q hq1 hq2
      by_cases h : id < snx
      · exact ⟨id, k1, h, o, k2⟩
      · rcases hnw id q o (by omega) k2 with h3 | h3
        · omega
        · exact h3
    exact ⟨id, mem_below.2 ⟨k1, hid⟩, o, by rw [← hlo id hid]; exact k2⟩
  have hhas' : ∀ q ∈ o.wr, nx ≤ q ∨ ∃ o, H.get q = some o := fun q hq => hhas q (by rw [g2] at hq; exact (mem_below.1 hq).1)
  have hkeep : ∀ q, q < nx → q ∉ o.wr → o.H.get q = H.get q := fun q hq hn => by
    rw [g3 q hq]
    exact hk q hq fun h => hn (by rw [g2]; exact mem_below.2 ⟨h, hq⟩)
  have hnw0 : ∀ id q o, snx ≤ id → ν id = some (q, o) → nx ≤ q := fun id q o h1 h2 => by have := (hM.lt id q o h2).2; omega
  simp only [sLeave] at h
  cases hb : sBack snx M' (below snx wr) M with
  | none => simp only [hb] at h <;> exact h.elim
  | some M1 =>
    simp only [hb] at h
    cases hvl : v.lt snx with
    | true =>
      simp only [hvl, cond_true, Al.force_eq] at h
      have hlv : lv.lt nx = true := vs_lt (n := snx) (fun id r o h1 h2 => by rw [hlo id h1] at h2; exact (hM.lt id r o h2).1) hvl hv
      have hv2 : VS ν v o.v := by rw [g1]; exact vs_low hlo hvl hv
      cases hwr : below snx wr with
      | nil =>
        rw [hwr] at h hw'
        have hb0 : below nx lw = [] := by
          cases hq : below nx lw with
          | nil => rfl
          | cons q l => obtain ⟨id, hid, _⟩ := hw' q (by rw [hq]; simp); cases hid
        have e := g6 hb0 hlv
        refine ⟨ν, v, M1, snx, [], ⟨fun _ _ => rfl, hnw0, g4, Nat.le_refl _, hs_back hM hM' hlo hnw hw hk hb g3 g4 (Nat.le_refl _), hv2, fun q hq => ?_, hkeep, hhas', fun h1 => absurd e h1⟩, h, g5⟩
        rw [g2, hb0] at hq; cases hq
      | cons x l =>
        rw [hwr] at h hw'
        refine ⟨ν, v, M1, snx + 1, x :: l, ⟨fun _ _ => rfl, hnw0, g4, by omega, hs_back hM hM' hlo hnw hw hk hb g3 g4 (by omega), hv2, fun q hq => ?_, hkeep, hhas', fun _ => by omega⟩, h, g5⟩
        rw [g2] at hq; exact hw' q hq
    | false =>
      simp only [hvl, cond_false] at h
      -- a slice that is new
      have key : ∀ {id : Nat} {n : Int} {lv1 : LV} {t : TypeId} {ks : List CK} {hh : Ll}, below snx wr = [] → M'.get id = some (.list t ks true hh) → n = hh.length → LSr (ν' id) true n lv1 → SV.lt (A := stdA fs ov) snx (.ls true id n) = false → lv.lt nx = lv1.lt nx →
          ∃ ν2, Lo snx ν ν2 ∧ (∀ id q o, snx ≤ id → ν2 id = some (q, o) → nx ≤ q) ∧ HS ν2 (M1.set snx (some (.list t ks true hh))) (snx + 1) o.H o.nx ∧ LSr (ν2 snx) true n lv1 ∧ o.wr = [] := by
        intro id n lv1 t ks hh hwr hg hn hls hid hlt
        have hid : snx ≤ id := by
          rcases Nat.lt_or_ge id snx with h | h
          · have e : Nat.blt id snx = true := by simpa using h
            rw [show SV.lt (A := stdA fs ov) snx (.ls true id n) = Nat.blt id snx from rfl, e] at hid; cases hid
          · exact h
        have hb0 : below nx lw = [] := by
          cases hq : below nx lw with
          | nil => rfl
          | cons q l => obtain ⟨i, hi, _⟩ := hw' q (by rw [hq]; simp); rw [hwr] at hi; cases hi
        have hO := (hM'.at_ id _ hg).2
        have h0 := hs_back hM hM' hlo hnw hw hk hb g3 g4 (show snx ≤ snx + 1 by omega)
        have hns : ∀ q o, ν snx ≠ some (q, o) := fun q o h => by have := (hM.lt snx q o h).2; omega
        obtain ⟨hn0, ⟨rfl, hz⟩ | ⟨r, off, hr, ⟨rfl, rfl⟩ | ⟨hf, _⟩⟩⟩ := hls
        · -- nil
          have hnone : ν snx = none := by
            cases hq : ν snx with
            | none => rfl
            | some x => exact absurd hq (hns x.1 x.2)
          refine ⟨ν, fun _ _ => rfl, hnw0, ⟨fun id1 so h1 => ?_, h0.lt, fun id1 id2 r1 o1 o2 so so2 h1 h3 h6 h4 h5 => ?_⟩, ⟨hn0, .inl ⟨rfl, hz⟩⟩, by rw [g2, hb0]⟩
          · rw [Al.get_set] at h1
            split at h1
            · rename_i e; subst e; cases h1
              exact ⟨by omega, hO.1, .inl (by omega), fun _ r o h => absurd h (hns r o)⟩
            · exact h0.at_ id1 so h1
          · rw [Al.get_set] at h1
            split at h1
            · rename_i e; subst e; exact absurd h4 (hns r1 o1)
            · rw [Al.get_set_ne _ _ fun e => by subst e; exact hns r1 o2 h5] at h6
              exact h0.inj id1 id2 r1 o1 o2 so so2 h1 h3 h6 h4 h5
        · have hrn : nx ≤ r := (hnw id r 0 hid hr).resolve_right fun ⟨id0, a1, a2, _⟩ => by
            have a3 := mem_below.2 ⟨a1, a2⟩
            rw [hwr] at a3; cases a3
          have hlt' : lv.lt nx = false := by
            rw [hlt]
            simp only [LV.lt]
            rw [← Bool.not_eq_true]; simp; omega
          obtain ⟨e1, e2⟩ := g7 hb0 hlt'
          have old : ∀ {i q o}, i ≠ snx → updN ν snx (some (r, 0)) i = some (q, o) → ν i = some (q, o) := fun e h => by rwa [updN_ne e] at h
          refine ⟨updN ν snx (some (r, 0)), fun i hi => updN_ne (by omega), fun i q o h1 h2 => ?_, ⟨fun id1 so h1 => ?_, fun id1 q o h1 => ?_, fun id1 id2 r1 o1 o2 so so2 h1 h3 h6 h4 h5 => ?_⟩, ⟨hn0, .inr ⟨r, 0, updN_same, .inl ⟨rfl, rfl⟩⟩⟩, by rw [g2, hb0]⟩
          · by_cases e : i = snx
            · subst e; rw [updN_same] at h2; cases h2; exact hrn
            · exact hnw0 i q o h1 (old e h2)
          · rw [Al.get_set] at h1
            split at h1
            · rename_i e; subst e; cases h1
              refine ⟨by omega, hO.1, hO.2.1.imp_right ?_, fun _ q o hq => ?_⟩
              · rintro ⟨r', o', lo, a, b, c⟩
                rw [hr] at a; cases a
                exact ⟨r, 0, lo, updN_same, by rw [e1]; exact b, c⟩
              · rw [updN_same] at hq; cases hq
                obtain ⟨a, lcs, b, c⟩ := hO.2.2 rfl r 0 hr
                exact ⟨rfl, lcs, by rw [e1]; exact b, c⟩
            · rename_i e
              obtain ⟨k1, k2⟩ := h0.at_ id1 so h1
              refine ⟨by omega, k2.sub (fun i x hx => ?_) (updN_ne e) fun r o lo a b => b⟩
              rw [updN_ne fun e => by subst e; exact hns x.1 x.2 hx]; exact hx
          · by_cases e : id1 = snx
            · subst e; rw [updN_same] at h1; cases h1
              exact ⟨by rw [e2]; exact (hM'.lt id _ 0 hr).1, by omega⟩
            · have := h0.lt id1 q o (old e h1); exact this
          · by_cases a1 : id1 = snx
            · by_cases a2 : id2 = snx
              · rw [a1, a2]
              · rw [a1, updN_same] at h4; cases h4
                have := (hM.lt id2 r o2 (old a2 h5)).1; omega
            · rw [Al.get_set_ne _ _ a1] at h1
              by_cases a2 : id2 = snx
              · rw [a2, updN_same] at h5; cases h5
                have := (hM.lt id1 r o1 (old a1 h4)).1; omega
              · rw [Al.get_set_ne _ _ a2] at h6
                exact h0.inj id1 id2 r1 o1 o2 so so2 h1 h3 h6 (old a1 h4) (old a2 h5)
        · cases hf
      have key2 : ∀ {id off len cap : Nat} {lv1 : LV} {e : TypeId} {ks : List CK} {g : Ll}, below snx wr = [] → litOf (A := stdA fs ov) P M' id off len cap = some (e, ks, g) → VS ν' (.sl id off len cap : SV (stdA fs ov)) lv1 → SV.lt (A := stdA fs ov) snx (.sl id off len cap) = false → lv.lt nx = lv1.lt nx →
          ∃ ν2, Lo snx ν ν2 ∧ (∀ id q o, snx ≤ id → ν2 id = some (q, o) → nx ≤ q) ∧ HS ν2 (M1.set snx (some (.list e ks false g))) (snx + 1) o.H o.nx ∧ LSr (ν2 snx) false (g.length : Int) lv1 ∧ o.wr = [] := by
        intro id off len cap lv1 e ks g hwr hg hls hid hlt
        obtain ⟨t, cs, q1, q2, q3⟩ := litOf_ok hg
        have hid : snx ≤ id := by
          rcases Nat.lt_or_ge id snx with h | h
          · have e : Nat.blt id snx = true := by simpa using h
            rw [show SV.lt (A := stdA fs ov) snx (.sl id off len cap) = Nat.blt id snx from rfl, e] at hid; cases hid
          · exact h
        have hb0 : below nx lw = [] := by
          cases hq : below nx lw with
          | nil => rfl
          | cons q l => obtain ⟨i, hi, _⟩ := hw' q (by rw [hq]; simp); rw [hwr] at hi; cases hi
        have h0 := hs_back hM hM' hlo hnw hw hk hb g3 g4 (show snx ≤ snx + 1 by omega)
        have hns : ∀ q o, ν snx ≠ some (q, o) := fun q o h => by have := (hM.lt snx q o h).2; omega
        obtain ⟨r, hr, rfl⟩ := hls
        obtain ⟨_, r', lcs, hr', hl, hcs⟩ := hM'.at_ id _ q1
        rw [hr] at hr'; cases hr'
        obtain ⟨u1, news, u2, u3⟩ := rowsOf_ok q2 (hcs.drop off)
        have hrn : nx ≤ r := (hnw id r 0 hid hr).resolve_right fun ⟨id0, a1, a2, _⟩ => by
          have a3 := mem_below.2 ⟨a1, a2⟩
          rw [hwr] at a3; cases a3
        have hlt' : lv.lt nx = false := by
          rw [hlt]
          simp only [LV.lt]
          rw [← Bool.not_eq_true]; simp; omega
        obtain ⟨e1, e2⟩ := g7 hb0 hlt'
        have old : ∀ {i q o}, i ≠ snx → updN ν snx (some (r, off)) i = some (q, o) → ν i = some (q, o) := fun e h => by rwa [updN_ne e] at h
        refine ⟨updN ν snx (some (r, off)), fun i hi => updN_ne (by omega), fun i q o h1 h2 => ?_, ⟨fun id1 so h1 => ?_, fun id1 q o h1 => ?_, fun id1 id2 r1 o1 o2 so so2 h1 h3 h6 h4 h5 => ?_⟩, ⟨Int.natCast_nonneg _, .inr ⟨r, off, updN_same, .inr ⟨rfl, cap, by simp; omega, by simp [u1]⟩⟩⟩, by rw [g2, hb0]⟩
        · by_cases e : i = snx
          · subst e; rw [updN_same] at h2; cases h2; exact hrn
          · exact hnw0 i q o h1 (old e h2)
        · rw [Al.get_set] at h1
          split at h1
          · rename_i e; subst e; cases h1
            exact ⟨by omega, u3.rows, .inr ⟨r, off, _, updN_same, by rw [e1]; exact hl, .inl ⟨lcs, rfl, rd_rows (by rw [u1]; exact u2) u3⟩⟩, fun h => by cases h⟩
          · rename_i e
            obtain ⟨k1, k2⟩ := h0.at_ id1 so h1
            refine ⟨by omega, k2.sub (fun i x hx => ?_) (updN_ne e) fun r o lo a b => b⟩
            rw [updN_ne fun e => by subst e; exact hns x.1 x.2 hx]; exact hx
        · by_cases e : id1 = snx
          · subst e; rw [updN_same] at h1; cases h1
            exact ⟨by rw [e2]; exact (hM'.lt id _ 0 hr).1, by omega⟩
          · have := h0.lt id1 q o (old e h1); exact this
        · by_cases a1 : id1 = snx
          · rw [a1, Al.get_set_same] at h1; cases h1; cases h3
          · rw [Al.get_set_ne _ _ a1] at h1
            by_cases a2 : id2 = snx
            · rw [a2, updN_same] at h5; cases h5
              have := (hM.lt id1 r o1 (old a1 h4)).1; omega
            · rw [Al.get_set_ne _ _ a2] at h6
              exact h0.inj id1 id2 r1 o1 o2 so so2 h1 h3 h6 (old a1 h4) (old a2 h5)
      split at h
      · rename_i id n hwr
        split at h
        · rename_i t ks hh hg
          obtain ⟨hn, h⟩ := h
          simp only [Al.force_eq] at h
          obtain ⟨ν2, k1, k2, k3, k4, k5⟩ := key hwr hg hn hv hvl rfl
          exact ⟨ν2, _, _, _, _, ⟨k1, k2, g4, by omega, k3, by rw [g1]; exact k4, fun q hq => (by rw [k5] at hq; cases hq), hkeep, hhas', fun _ => by omega⟩, h, g5⟩
        · exact h.elim
      · rename_i id n hwr
        split at h
        · rename_i t ks hh hg
          obtain ⟨hn, h⟩ := h
          simp only [Al.force_eq] at h
          obtain ⟨l', rfl, lv1, r', rfl, hls, hr'⟩ := hv
          obtain rfl := hr'
          obtain ⟨ν2, k1, k2, k3, k4, k5⟩ := key hwr hg hn hls (by simpa [SV.lt, SV.ltL] using hvl) (by simp [LV.lt, LV.ltL])
          exact ⟨ν2, _, _, _, _, ⟨k1, k2, g4, by omega, k3, by rw [g1]; exact ⟨_, rfl, _, _, rfl, k4, rfl⟩, fun q hq => (by rw [k5] at hq; cases hq), hkeep, hhas', fun _ => by omega⟩, h, g5⟩
        · exact h.elim
      · rename_i f cap hwr
        cases hp : newP snx cap with
        | false => rw [hp] at h; exact h.elim
        | true =>
          rw [hp] at h
          have h : K (.fn f [] cap) M' snx' [] := h
          obtain ⟨a', c', rfl, ha', hc'⟩ := hv
          obtain rfl := ha'
          obtain ⟨id, r, off, m1, m2, m3⟩ := newP_ok hp hc'
          have hb0 : below nx lw = [] := by
            cases hq : below nx lw with
            | nil => rfl
            | cons q l => obtain ⟨id, h1, _⟩ := hw' q (by rw [hq]; simp); rw [hwr] at h1; cases h1
          have strong : ∀ (id q o : Nat), snx ≤ id → ν' id = some (q, o) → nx ≤ q := fun id q o h1 h2 => (hnw id q o h1 h2).resolve_right fun ⟨id0, a1, a2, _⟩ => by
            have a3 := mem_below.2 ⟨a1, a2⟩
            rw [hwr] at a3; cases a3
          have hlt' : LV.lt nx (.fn (.func f) [] c') = false := by
            show (LV.ltL nx [] && LV.ltL nx c') = false
            rw [ltL_false m3 (strong id r 0 m1 m2), Bool.and_false]
          obtain ⟨e1, e2⟩ := g7 hb0 hlt'
          have hid := (hM'.lt id r 0 m2).2
          exact ⟨ν', _, M', snx', [], ⟨hlo, strong, g4, by omega, by rw [e1, e2]; exact hM', by rw [g1]; exact ⟨[], c', rfl, rfl, hc'⟩, fun q hq => (by rw [g2, hb0] at hq; cases hq), hkeep, hhas', fun _ => by omega⟩, h, g5⟩
      · rename_i id off len cap hwr
        split at h
        · rename_i e ks g hg
          simp only [Al.force_eq] at h
          obtain ⟨ν2, k1, k2, k3, k4, k5⟩ := key2 hwr hg hv hvl rfl
          exact ⟨ν2, _, _, _, _, ⟨k1, k2, g4, by omega, k3, by rw [g1]; exact k4, fun q hq => (by rw [k5] at hq; cases hq), hkeep, hhas', fun _ => by omega⟩, h, g5⟩
        · exact h.elim
      · rename_i id off len cap hwr
        split at h
        · rename_i e ks g hg
          simp only [Al.force_eq] at h
          obtain ⟨l', rfl, lv1, r', rfl, hls, hr'⟩ := hv
          obtain rfl := hr'
          obtain ⟨ν2, k1, k2, k3, k4, k5⟩ := key2 hwr hg hls (by simpa [SV.lt, SV.ltL] using hvl) (by simp [LV.lt, LV.ltL])
          exact ⟨ν2, _, _, _, _, ⟨k1, k2, g4, by omega, k3, by rw [g1]; exact ⟨_, rfl, _, _, rfl, k4, rfl⟩, fun q hq => (by rw [k5] at hq; cases hq), hkeep, hhas', fun _ => by omega⟩, h, g5⟩
        · exact h.elim
      · exact h.elim
theorem sArgs_ok : ∀ {l : List (SV (stdA fs ov))} {ll : List LV} {k : Nat} {T : Al (SV (stdA fs ov))} {L : Tr LV}, VSL ν l ll → FS ν T L → FS ν (sArgs k l T) (ofArgs k ll L)
  | [], ll, k, T, L, h, hF => by rw [show ll = [] from h]; exact hF
  | x :: l, ll, k, T, L, h, hF => by
    obtain ⟨y, r, rfl, h1, h2⟩ := h
    simp only [sArgs, ofArgs, Al.force_eq, Tr.force_eq]
    refine sArgs_ok h2 ⟨fun t u hu => ?_⟩
    rw [Al.get_set] at hu; rw [Tr.get_set]
    split at hu
    · rename_i e; rw [if_pos e]; cases hu; exact ⟨y, rfl, h1⟩
    · rename_i e; rw [if_neg e]; exact hF.at_ t u hu
theorem sRes_ok (hF : FS ν T L) (hM : HS ν M snx H nx) : ∀ {l : List ResultVar} {vs : List (SV (stdA fs ov))}, sRes P T M l = some vs → ∃ ls, evRes P L H l = some ls ∧ VSL ν vs ls
  | [], vs, h => by simp [sRes] at h; subst h; exact ⟨[], rfl, rfl⟩
  | .tmp t :: r, vs, h => by
    simp only [sRes] at h
    cases ht : T.get t with
    | none => simp [ht] at h
    | some v =>
      cases hr : sRes P T M r with
      | none => simp [ht, hr] at h
      | some l =>
        simp [ht, hr] at h; subst h
        obtain ⟨lv, h1, h2⟩ := hF.at_ t v ht
        obtain ⟨ls, h3, h4⟩ := sRes_ok hF hM hr
        exact ⟨lv :: ls, by simp [evRes, h1, h3], VSL.cons h2 h4⟩
  | .cell a t :: r, vs, h => by
    simp only [sRes] at h
    split at h
    · rename_i id off l ht hr
      split at h
      · rename_i u cs hg
        cases hp : sPrt P t cs off with
        | none => simp [hp] at h
        | some v =>
          simp [hp] at h; subst h
          obtain ⟨lv, h1, q, hq, rfl⟩ := hF.at_ a _ ht
          obtain ⟨q', lcs, hq', hH, hcs⟩ := (hM.at_ id _ hg).2
          rw [hq] at hq'; cases hq'
          obtain ⟨lv, h5, h6⟩ := sPrt_ok hp hcs
          obtain ⟨ls, h3, h4⟩ := sRes_ok hF hM hr
          exact ⟨lv :: ls, by simp [evRes, h1, h3, hH, LO.cs, h5], VSL.cons h6 h4⟩
      · cases h
    · cases h
theorem lOfS_ok {vs : List (SV (stdA fs ov))} {ls : List LV} (h : VSL ν vs ls) : VS ν (lOfS vs) (lOf ls) := by
  cases vs with
  | nil => rw [show ls = [] from h]; exact ⟨[], rfl, rfl⟩
  | cons x l =>
    obtain ⟨y, r, rfl, h1, h2⟩ := h
    cases l with
    | nil => rw [show r = [] from h2]; exact h1
    | cons x2 l =>
      obtain ⟨y2, r2, rfl, h3, h4⟩ := h2
      exact ⟨_, rfl, VSL.cons h1 (VSL.cons h3 h4)⟩
theorem unmark_get {n : Nat} : ∀ {l : List Nat} {H : Hp}, l.Nodup → (∀ d ∈ l, H.get d = some .dfr ∧ d < n) → ∃ H2, unmark n H l = some H2 ∧ ∀ q, H2.get q = if q ∈ l then none else H.get q
  | [], H, _, _ => ⟨H, rfl, fun q => by simp⟩
  | d :: l, H, hn, h => by
    obtain ⟨h1, h2⟩ := h d (by simp)
    have hb : Nat.blt d n = true := by simpa using h2
    have hn' := List.nodup_cons.1 hn
    obtain ⟨H2, a, b⟩ := unmark_get (n := n) (H := H.set d none) hn'.2 fun d' hd => ⟨by
      rw [Tr.get_set_ne _ _ fun e => hn'.1 (by rw [← e]; exact hd)]; exact (h d' (by simp [hd])).1, (h d' (by simp [hd])).2⟩
    refine ⟨H2, by simp only [unmark, h1, hb, cond_true, Tr.force_eq]; exact a, fun q => ?_⟩
    rw [b, Tr.get_set]
    by_cases e : q = d
    · subst e; simp
    · simp [e]
/-- What the text of a function has left. -/
theorem sFunc_pre {cs : CallS (stdA fs ov)} {call : CallT} (hc : CallSOK cs call) (hfs : fs.rng = rngAt P) {lp : FuncId → LoopS (stdA fs ov)} {Lm U : Nat} (hl : ∀ g fn c, P.funcs[g]? = some fn → fn.body = some c → LoopsOK P call Lm c (lp g)) (hU : U ≤ Lm)
    {g : FuncId} {args : List (SV (stdA fs ov))} {K : KS (stdA fs ov)} (h : sFunc P U cs lp g args M snx K) {largs : List LV} (ha : VSL ν args largs) (hM : HS ν M snx H nx) :
    ∃ ν' vs M' snx' wr ls H2 nx' lw mx, evStep P Lm call (.f g) largs H nx = some ⟨gcA largs nx H (lOf ls) H2 nx' lw, mx⟩ ∧ nx' ≤ mx ∧ HS ν' M' snx' H2 nx' ∧ Lo snx ν ν' ∧ (∀ id q o, snx ≤ id → ν' id = some (q, o) → nx ≤ q ∨ ∃ id0 ∈ wr, id0 < snx ∧ ∃ o', ν' id0 = some (q, o')) ∧ nx ≤ nx' ∧ snx ≤ snx' ∧
      (∀ q ∈ lw, q < nx → ∃ id ∈ wr, ∃ o, ν' id = some (q, o)) ∧ (∀ q, q < nx → q ∉ lw → H2.get q = H.get q) ∧ (∀ q ∈ lw, nx ≤ q ∨ ∃ o, H.get q = some o) ∧ VS ν' (lOfS vs) (lOf ls) ∧
      sEnd P args snx M (lOfS vs) M' snx' wr K := by
  unfold sFunc at h
  cases hfn : P.funcs[g]? with
  | none => simp only [hfn] at h <;> exact h.elim
  | some fn =>
    simp only [hfn] at h
    cases hb : fn.body with
    | none => simp only [hb] at h <;> exact h.elim
    | some c =>
      simp only [hb, Al.force_eq] at h
      have hs0 : Sim (fun q => nx ≤ q) ν ⟨sArgs 0 args .l, args.length + (fn.ntmps - args.length), M, snx, []⟩ ⟨ofArgs 0 largs .l, largs.length + (fn.ntmps - largs.length), H, nx, [], [], nx⟩ :=
        ⟨by rw [ha.length], sArgs_ok ha ⟨fun t u hu => by simp [Al.get_l] at hu⟩, hM, Nat.le_refl _, fun q hq => (by cases hq), fun q hq => hq⟩
      obtain ⟨e, S', ν', s', h1, h2, h3, h4⟩ := sCode_ok (lp := ⟨g, false, lp g⟩) (ro := none) hc (hl g fn c hfn hb) (fun p x _ hx => by rw [hfs]; exact hx) ⟨fn, hfn, hb⟩ hU (fun _ => rfl) h rfl hs0
      obtain ⟨T', N', H', nx', lw, df, mx⟩ := S'
      obtain ⟨ds, d1, d2, d3⟩ := h2.df
      have d1 : df = ds ++ [] := d1
      rw [List.append_nil] at d1
      subst d1
      obtain ⟨H2, u1, u2⟩ := unmark_get (n := nx') (H := H') d2 fun d hd => ⟨(d3 d hd).2.2.1, (d3 d hd).2.1⟩
      have hH2 : HS ν' s'.H s'.nx H2 nx' := h3.H.same' fun id r o hr => by
        rw [u2, if_neg fun hd => (d3 r hd).2.2.2 id o hr]
      have hup : nx ≤ nx' := h2.up
      have hmx : nx' ≤ mx := h3.mx
      have b1 : Nat.ble nx nx' = true := by simpa using hup
      have fin : ∀ vs, sRes P s'.T s'.H fn.results.toList = some vs → (e = .normal ∨ e = .ret) → sEnd P args snx M (lOfS vs) s'.H s'.nx s'.wr K → ∃ ν' vs M' snx' wr ls H2 nx' lw mx, evStep P Lm call (.f g) largs H nx = some ⟨gcA largs nx H (lOf ls) H2 nx' lw, mx⟩ ∧ nx' ≤ mx ∧ HS ν' M' snx' H2 nx' ∧ Lo snx ν ν' ∧ (∀ id q o, snx ≤ id → ν' id = some (q, o) → nx ≤ q ∨ ∃ id0 ∈ wr, id0 < snx ∧ ∃ o', ν' id0 = some (q, o')) ∧ nx ≤ nx' ∧ snx ≤ snx' ∧
        (∀ q ∈ lw, q < nx → ∃ id ∈ wr, ∃ o, ν' id = some (q, o)) ∧ (∀ q, q < nx → q ∉ lw → H2.get q = H.get q) ∧ (∀ q ∈ lw, nx ≤ q ∨ ∃ o, H.get q = some o) ∧ VS ν' (lOfS vs) (lOf ls) ∧
        sEnd P args snx M (lOfS vs) M' snx' wr K := fun vs hr he hk => by
        obtain ⟨ls, h5, h6⟩ := sRes_ok h3.T hH2 hr
        refine ⟨ν', vs, s'.H, s'.nx, s'.wr, ls, H2, nx', addW df lw, mx, ?_, hmx, hH2, h2.lo, h2.nw, hup, h2.sup, fun q hq hlt => ?_, fun q hq hn => ?_, fun q hq => ?_, lOfS_ok h6, hk⟩
        · rcases he with rfl | rfl <;> simp only [evStep, hfn, hb, Tr.force_eq, nN_eq, h1, u1, h5, b1, cond_true]
        · rcases mem_addW.1 hq with h7 | h7
          · have : nx ≤ q := (d3 q h7).1; omega
          · exact (h3.wr q h7).resolve_left (by show ¬ nx ≤ q; omega)
        · rw [u2, if_neg fun hd => hn (mem_addW.2 (.inl hd))]
          exact h2.keep q hq fun h => hn (mem_addW.2 (.inr h))
        · rcases mem_addW.1 hq with h7 | h7
          · exact .inl (d3 q h7).1
          · exact (h2.has q h7).resolve_left (by simp)
      cases e with
      | normal =>
        simp only at h4
        split at h4
        · rename_i vs hr; exact fin vs hr (.inl rfl) h4
        · exact h4.elim
      | ret =>
        simp only at h4
        split at h4
        · rename_i vs hr; exact fin vs hr (.inr rfl) h4
        · exact h4.elim
      | exit j => exact h4.elim
      | goto j => exact h4.elim
theorem sFunc_ok {cs : CallS (stdA fs ov)} {call : CallT} (hc : CallSOK cs call) (hfs : fs.rng = rngAt P) {lp : FuncId → LoopS (stdA fs ov)} {Lm U : Nat} (hl : ∀ g fn c, P.funcs[g]? = some fn → fn.body = some c → LoopsOK P call Lm c (lp g)) (hU : U ≤ Lm)
    {g : FuncId} {args : List (SV (stdA fs ov))} (hy : noY args = true) {K : KS (stdA fs ov)} (h : sFunc P U cs lp g args M snx K) {largs : List LV} (ha : VSL ν args largs) (hM : HS ν M snx H nx) : GotOp ν snx H nx K (evStep P Lm call (.f g) largs H nx) := by
  obtain ⟨ν', vs, M', snx', wr, ls, H2, nx', lw, mx, e1, e2, e3, e4, e5, e6, e7, e8, e9, e10, e11, e12⟩ := sFunc_pre hc hfs hl hU h ha hM
  have h4 : sLeave P snx M (lOfS vs) M' snx' wr K := by
    rw [sEnd, hy] at e12; exact e12
  obtain ⟨ν2, v2, M2, snx2, wr2, k1, k2, k3⟩ := sLeave_ok (lw := lw) hM e3 e4 e5 e6 e8 e9 e10 e11 h4
  have hg : gcA largs nx H (lOf ls) H2 nx' lw = gc nx H (lOf ls) H2 nx' lw := by
    cases args with
    | nil => rw [show largs = [] from ha]; rfl
    | cons x l =>
      obtain ⟨y, r, rfl, hx, _⟩ := ha
      cases y with
      | yld q =>
        cases x with
        | yld id => cases hy
        | b x => cases hx
        | i k x => cases hx
        | s x => cases hx
        | nilp => cases hx
        | p id off => obtain ⟨_, _, e⟩ := hx; cases e
        | pe id z i j => obtain ⟨_, _, _, _, e⟩ := hx; cases e
        | nils => cases hx
        | sl id off len cap => obtain ⟨_, _, e⟩ := hx; cases e
        | ls own id n => obtain ⟨_, ⟨e, _⟩ | ⟨_, _, _, ⟨_, e⟩ | ⟨_, _, _, e⟩⟩⟩ := hx <;> cases e
        | fn f a c => obtain ⟨_, _, e, _⟩ := hx; cases e
        | nilf => cases hx
        | nili => cases hx
        | agg l => obtain ⟨_, e, _⟩ := hx; cases e
        | tup l => obtain ⟨_, e, _⟩ := hx; cases e
      | _ => rfl
  rw [hg] at e1
  exact ⟨_, e1, Nat.le_trans k3 e2, _, ν2, v2, M2, snx2, wr2, rfl, k1, k2⟩
theorem sFunc_okW {cs : CallS (stdA fs ov)} {call : CallT} (hc : CallSOK cs call) (hfs : fs.rng = rngAt P) {lp : FuncId → LoopS (stdA fs ov)} {Lm U : Nat} (hl : ∀ g fn c, P.funcs[g]? = some fn → fn.body = some c → LoopsOK P call Lm c (lp g)) (hU : U ≤ Lm)
    {g : FuncId} {args : List (SV (stdA fs ov))} (hy : noY args = false) {K : KS (stdA fs ov)} (h : sFunc P U cs lp g args M snx K) {largs : List LV} (ha : VSL ν args largs) (hM : HS ν M snx H nx) : GotOpW ν snx H nx K (evStep P Lm call (.f g) largs H nx) := by
  obtain ⟨ν', vs, M', snx', wr, ls, H2, nx', lw, mx, e1, e2, e3, e4, e5, e6, e7, e8, e9, e10, e11, e12⟩ := sFunc_pre hc hfs hl hU h ha hM
  rw [sEnd, hy] at e12
  cases args with
  | nil => cases hy
  | cons x l =>
    cases x with
    | yld id =>
      obtain ⟨y, r, rfl, ⟨q, _, rfl⟩, _⟩ := ha
      refine ⟨_, ν', lOfS vs, M', snx', below snx wr, e1, e2, ⟨e4, fun id q o h1 h2 => (e5 id q o h1 h2).imp_right fun ⟨id0, a, b, c⟩ => ⟨id0, mem_below.2 ⟨a, b⟩, b, c⟩, e6, e7, e3, e11, fun q hq => ?_, fun q hq hn => e9 q hq fun h => hn (mem_below.2 ⟨h, hq⟩), fun q hq => e10 q (mem_below.1 hq).1⟩, e12⟩
      obtain ⟨h1, h2⟩ := mem_below.1 hq
      obtain ⟨id, a, o, b⟩ := e8 q h1 h2
      by_cases hid : id < snx
      · exact ⟨id, mem_below.2 ⟨a, hid⟩, o, by rw [← e4 id hid]; exact b⟩
      · rcases e5 id q o (by omega) b with h3 | ⟨id0, c1, c2, o', c3⟩
        · omega
        · exact ⟨id0, mem_below.2 ⟨c1, c2⟩, o', by rw [← e4 id0 c2]; exact c3⟩
    | _ => cases hy
theorem sPutArgs_ok : ∀ {l : List (SV (stdA fs ov))} {ll : List LV} {ps : List Tmp} {T : Al (SV (stdA fs ov))} {L : Tr LV}, VSL ν l ll → FS ν T L → FS ν (sPutArgs ps l T) (putArgs ps ll L)
  | [], ll, ps, T, L, h, hF => by rw [show ll = [] from h]; cases ps <;> exact hF
  | x :: l, ll, [], T, L, h, hF => by obtain ⟨y, r, rfl, h1, h2⟩ := h; exact hF
  | x :: l, ll, p :: ps, T, L, h, hF => by
    obtain ⟨y, r, rfl, h1, h2⟩ := h
    simp only [sPutArgs, putArgs, Al.force_eq, Tr.force_eq]
    refine sPutArgs_ok h2 ⟨fun t u hu => ?_⟩
    rw [Al.get_set] at hu; rw [Tr.get_set]
    split at hu
    · rename_i e; rw [if_pos e]; cases hu; exact ⟨y, rfl, h1⟩
    · rename_i e; rw [if_neg e]; exact hF.at_ t u hu
theorem rngAt_to {g : Nat} {p : List Bool} {ps : Array Tmp} {as body : Code} (h : rngAt P g p = some (ps, as, body)) : ∃ fn c f, P.funcs[g]? = some fn ∧ fn.body = some c ∧ codeAt c p = some (.rangeFunc f ps as body) := by
  unfold rngAt at h
  split at h
  · rename_i fn h1
    split at h
    · rename_i c h2
      split at h
      · rename_i f ps' as' body' h3
        cases h; exact ⟨fn, c, f, h1, h2, h3⟩
      · cases h
    · cases h
  · cases h
/-- A frame's flag or exit is set. -/
theorem frm_set {W : Nat → Prop} {s : SS (stdA fs ov)} {S : Rx.S} (hs : Sim W ν s S) {id r : Nat} (hr : ν id = some (r, 0)) {g N : Nat} {p : List Bool} {T : Al (SV (stdA fs ov))} {b b' : Bool} {e e' : Ex} (hg : s.H.get id = some (.frm g p N T b e)) (hb : b' = true → e' = .normal) :
    ∃ ps as body d L, S.H.get r = some (.loop (bif b then .busy else e.st) e.code N L ps as body d) ∧ fs.rng g p = some (ps, as, body) ∧
      HS ν (s.H.set id (some (.frm g p N T b' e'))) s.nx (S.H.set r (some (.loop (bif b' then .busy else e'.st) e'.code N L ps as body d))) S.nx := by
  obtain ⟨_, r', ps, as, body, d, L, a1, a2, a3, a4, a5⟩ := hs.H.at_ id _ hg
  rw [hr] at a1; cases a1
  exact ⟨ps, as, body, d, L, a2, a4, hs_write hs.H hg rfl rfl hr ⟨r, ps, as, body, d, L, hr, Tr.get_set_same _ _ _, a3, a4, hb⟩⟩
theorem objs_loop {n r : Nat} {H H₀ : Hp} {st : LoopState} {pe : Option Code} {N : Nat} {T : Tr LV} {ps : Array Tmp} {as body : Code} {d : Nat} (hr : H.get r = some (.loop st pe N T ps as body d)) : ∀ {l : List Nat}, r ∈ l → objsBelow n H H₀ l = false
  | [], h => by cases h
  | x :: l, h => by
    simp only [objsBelow]
    rcases List.mem_cons.1 h with rfl | h
    · rw [hr]; simp [LO.lt]
    · rw [objs_loop hr h, Bool.and_false]
/-- One round of a range over a function. -/
theorem sTurn_ok {cs : CallS (stdA fs ov)} {call : CallT} (hc : CallSOK cs call) (hfs : fs.rng = rngAt P) {lp : FuncId → LoopS (stdA fs ov)} {Lm U : Nat} (hl : ∀ g fn c, P.funcs[g]? = some fn → fn.body = some c → LoopsOK P call Lm c (lp g)) (hU : U ≤ Lm)
    {id r : Nat} {args : List (SV (stdA fs ov))} {K : KS (stdA fs ov)} (h : sTurn P U cs lp id args M snx K) {largs : List LV} (ha : VSL ν args largs) (hM : HS ν M snx H nx) (hr : ν id = some (r, 0)) : GotOpW ν snx H nx K (evStep P Lm call (.r r) largs H nx) := by
  unfold sTurn at h
  split at h
  · rename_i g p N T hg
    obtain ⟨hid, r', ps, as, body, d, L, a1, a2, a3, a4, _⟩ := hM.at_ id _ hg
    rw [hr] at a1; cases a1
    split at h
    · rename_i ps0 as0 body0 hrng
      rw [hfs, hrng] at a4; cases a4
      obtain ⟨fn, c0, f, q1, q2, q3⟩ := rngAt_to hrng
      have hlen := ha.length
      rw [← hlen] at h
      cases hb : (Nat.beq ps.size largs.length && allLt N ps.toList) with
      | false => rw [hb] at h; exact h.elim
      | true =>
        rw [hb, cond_true] at h
        have hrn := (hM.lt id r 0 hr).1
        have hb' : (Nat.beq ps.size largs.length && allLt N ps.toList && Nat.blt r nx) = true := by rw [hb]; simpa using hrn
        have hs0 : Sim (fun q => nx ≤ q) ν ⟨sPutArgs ps.toList args T, N, M, snx, []⟩ ⟨putArgs ps.toList largs L, N, H, nx, [], [], nx⟩ :=
          ⟨rfl, sPutArgs_ok ha a3, hM, Nat.le_refl _, fun q hq => (by cases hq), fun q hq => hq⟩
        have nofs : ∀ p x, (⟨g, true, lp g⟩ : LpG (stdA fs ov)).rg = false → rngAt P g p = some x → fs.rng g p = some x := fun p x e => by cases e
        obtain ⟨e1, S1, ν1, s1, h1, x1, y1, h⟩ := sCode_ok (lp := ⟨g, true, lp g⟩) (ro := some r) hc (hl g fn c0 q1 q2) nofs ⟨fn, q1, q2⟩ hU (fun e => by cases e) h (by simp [codeAt, q3]) hs0
        have hr1 : ν1 id = some (r, 0) := by rw [x1.lo id hid]; exact hr
        dsimp only at h
        split at h
        · rename_i g1 p1 N1 T1 hg1
          simp only [Al.force_eq] at h
          obtain ⟨ps1, as1, body1, d1, L1, b1, b2, b3⟩ := frm_set (b' := true) (e' := .normal) y1 hr1 hg1 (fun _ => rfl)
          obtain ⟨T2, N2, H2, nx2, lw2, df2, mx2⟩ := S1
          have hs1 : Sim (fun q => nx ≤ q) ν1 ⟨s1.T, s1.N, s1.H.set id (some (.frm g1 p1 N1 T1 true .normal)), s1.nx, addW [id] s1.wr⟩ ⟨T2, N2, H2.set r (some (.loop .busy none N1 L1 ps1 as1 body1 d1)), nx2, addW [r] lw2, df2, mx2⟩ :=
            ⟨y1.N, y1.T, b3, y1.mx, fun q hq => by
              rcases mem_addW.1 hq with hq | hq
              · simp at hq; subst hq; exact .inr ⟨id, mem_addW.2 (.inl (by simp)), 0, hr1⟩
              · exact (y1.wr q hq).imp_right fun ⟨i, a, b⟩ => ⟨i, mem_addW.2 (.inr a), b⟩, y1.wup⟩
          have x12 : XT ν1 s1 ⟨T2, N2, H2, nx2, lw2, df2, mx2⟩ ν1 ⟨s1.T, s1.N, s1.H.set id (some (.frm g1 p1 N1 T1 true .normal)), s1.nx, addW [id] s1.wr⟩ ⟨T2, N2, H2.set r (some (.loop .busy none N1 L1 ps1 as1 body1 d1)), nx2, addW [r] lw2, df2, mx2⟩ :=
            ⟨fun _ _ => rfl, fun id q o h1 h2 => (by have := (y1.H.lt id q o h2).2; omega), Nat.le_refl _, Nat.le_refl _, fun q hq => mem_addW.2 (.inr hq), fun q hq => mem_addW.2 (.inr hq), fun q hq hn => Tr.get_set_ne _ _ fun e => by subst e; exact hn id (mem_addW.2 (.inl (by simp))) 0 hr1,
              fun q hq hn => Tr.get_set_ne _ _ fun e => by subst e; exact hn (mem_addW.2 (.inl (by simp))), fun q hq => by
                rcases mem_addW.1 hq with hq | hq
                · simp at hq; subst hq; exact .inr (.inr ⟨_, b1⟩)
                · exact .inl hq, .of rfl⟩
          obtain ⟨e2, S3, ν3, s3, h2, x3, y3, h⟩ := sCode_ok (lp := ⟨g, true, lp g⟩) (ro := some r) hc (hl g fn c0 q1 q2) nofs ⟨fn, q1, q2⟩ hU (fun e => by cases e) h (by simp [codeAt, q3]) hs1
          have hid1 : id < s1.nx := (y1.H.at_ id _ hg1).1
          have hr3 : ν3 id = some (r, 0) := by rw [x3.lo id hid1]; exact hr1
          split at h
          · rename_i g3 p3 N3 T3 hg3
            obtain ⟨ps3, as3, body3, d3, L3, c1, c2, c3⟩ := frm_set (b' := false) (e' := e2) y3 hr3 hg3 (fun e => by cases e)
            have xx : XT ν ⟨sPutArgs ps.toList args T, N, M, snx, []⟩ ⟨putArgs ps.toList largs L, N, H, nx, [], [], nx⟩ ν3 s3 S3 := (x1.trans y1 x12).trans hs1 x3
            obtain ⟨T4, N4, H4, nx4, lw4, df4, mx4⟩ := S3
            have hup : nx ≤ nx4 := xx.up
            have hmx : nx4 ≤ mx4 := y3.mx
            have hble : Nat.ble nx nx4 = true := by simpa using hup
            have hrin : r ∈ below nx (addW [r] lw4) := mem_below.2 ⟨mem_addW.2 (.inl (by simp)), hrn⟩
            have a2' : H.get r = some (.loop .ready none N L ps as body d) := a2
            have b1' : H2.get r = some (.loop .ready none N1 L1 ps1 as1 body1 d1) := b1
            have c1' : H4.get r = some (.loop .busy none N3 L3 ps3 as3 body3 d3) := c1
            have hgc : gc nx H e2.ok (H4.set r (some (.loop e2.st e2.code N3 L3 ps3 as3 body3 d3))) nx4 (addW [r] lw4) = ⟨e2.ok, H4.set r (some (.loop e2.st e2.code N3 L3 ps3 as3 body3 d3)), nx4, below nx (addW [r] lw4)⟩ := by
              rw [below_match, if_neg (fun e => by rw [e] at hrin; cases hrin), objs_loop (Tr.get_set_same _ _ _) hrin, Bool.and_false]; rfl
            have hev : evStep P Lm call (.r r) largs H nx = some ⟨⟨e2.ok, H4.set r (some (.loop e2.st e2.code N3 L3 ps3 as3 body3 d3)), nx4, below nx (addW [r] lw4)⟩, mx4⟩ := by
              rw [← hgc]
              simp only [evStep, a2', hb', cond_true, h1, b1', Tr.force_eq, h2, c1', hble]
            have lw_lt : ∀ q ∈ lw4, q < nx → ∃ id ∈ s3.wr, ∃ o, ν3 id = some (q, o) := fun q hq hlt => (y3.wr q hq).resolve_left (by omega)
            refine ⟨_, ν3, .b (isN e2), s3.H.set id (some (.frm g3 p3 N3 T3 false e2)), s3.nx, addW [id] s3.wr, hev, hmx, ⟨xx.lo, fun i q o u1 u2 => (xx.nw i q o u1 u2).imp_right fun ⟨i0, a, b⟩ => ⟨i0, mem_addW.2 (.inr a), b⟩, hup, xx.sup, c3, by cases e2 <;> rfl, fun q hq => ?_, fun q hq hn => ?_, fun q hq => ?_⟩, h⟩
            · obtain ⟨u1, u2⟩ := mem_below.1 hq
              rcases mem_addW.1 u1 with u1 | u1
              · simp at u1; subst u1; exact ⟨id, mem_addW.2 (.inl (by simp)), 0, hr⟩
              · obtain ⟨i, w1, o, w2⟩ := lw_lt q u1 u2
                by_cases hi : i < snx
                · exact ⟨i, mem_addW.2 (.inr w1), o, by rw [← xx.lo i hi]; exact w2⟩
                · rcases xx.nw i q o (by show snx ≤ i; omega) w2 with h9 | ⟨i0, z1, z2, o', z3⟩
                  · have h9 : nx ≤ q := h9; omega
                  · exact ⟨i0, mem_addW.2 (.inr z1), o', by rw [← xx.lo i0 z2]; exact z3⟩
            · have hqr : q ≠ r := fun e => by subst e; exact hn hrin
              show (H4.set r _).get q = H.get q
              rw [Tr.get_set_ne _ _ hqr]
              exact xx.keep q hq fun hq2 => hn (mem_below.2 ⟨mem_addW.2 (.inr hq2), hq⟩)
            · rcases mem_addW.1 (mem_below.1 hq).1 with u1 | u1
              · simp at u1; subst u1; exact .inr ⟨_, a2⟩
              · exact (xx.has q u1).resolve_left (by simp)
          · exact h.elim
        · exact h.elim
    · exact h.elim
  · exact h.elim
end Go.Rx

set_option linter.unusedSimpArgs false
set_option linter.unusedVariables false
set_option linter.unusedSectionVars false
namespace Go.Rx
open Go
variable {fs : Fs} {ov : Bool} {ν : Nm} {P : Program}

/-- Rounds of a loop, at most. -/
abbrev LL : Nat := 18446744073709551616
/-- The run of calls, with the one call that is known. -/
noncomputable def CN (P : Program) (aw : FuncId) (n : Nat) : CallT := known [(aw, [([], .b true)])] (evKnown P LL [(aw, [([], .b true)])] n)
theorem CN_step {aw n g : Nat} (h : g ≠ aw) : CN P aw (n + 1) (.f g) = evStep P LL (CN P aw n) (.f g) := by
  funext as H nx
  have hb : Nat.beq g aw = false := (beq_false _ _).2 h
  simp only [CN, known, look, hb, cond_false]
  rfl
theorem CN_awake {aw n : Nat} {H : Hp} {nx : Nat} : CN P aw n (.f aw) [] H nx = some ⟨⟨.b true, H, nx, []⟩, nx⟩ := by
  have hb : Nat.beq aw aw = true := Nat.beq_refl _
  simp [CN, known, look, lookIn, hb, sameL]
/-- A call that leaves memory as it is. -/
def Pure (P : Program) (aw m g : Nat) (args : List LV) (H : Hp) (nx : Nat) (lv : LV) : Prop := ∃ r, CN P aw m (.f g) args H nx = some r ∧ nx ≤ r.mx ∧ r.o.v = lv ∧ r.o.nx = nx ∧ r.o.wr = [] ∧ ∀ q, q < nx → r.o.H.get q = H.get q
/-- What is told of a function, in the symbolic run. -/
def SpecOK (P : Program) (aw d g : Nat) (f : List (SV (stdA fs ov)) → SH (stdA fs ov) → Nat → KS (stdA fs ov) → Prop) : Prop := ∀ m, d ≤ m → ∀ args M snx K, f args M snx K → ∀ ν largs H nx, VSL ν args largs → HS ν M snx H nx → GotOp ν snx H nx K (CN P aw m (.f g) largs H nx)
abbrev SpL (A : Alg) := List (Nat × (List (SV A) → SH A → Nat → KS A → A.R))
noncomputable def spOf {A : Alg} : SpL A → SpecS A
  | [], _ => none
  | (g, f) :: l, g' => bif Nat.beq g' g then some f else spOf l g'
def SpOK (P : Program) (aw d : Nat) (l : SpL (stdA fs ov)) : Prop := ∀ x ∈ l, SpecOK P aw d x.1 x.2
theorem spOf_ok {l : SpL (stdA fs ov)} {g : Nat} {f} (h : spOf l g = some f) : (g, f) ∈ l := by
  induction l with
  | nil => cases h
  | cons x l ih =>
    obtain ⟨g', f'⟩ := x
    simp only [spOf] at h
    cases hb : Nat.beq g g'
    · simp only [hb, cond_false] at h; exact List.mem_cons_of_mem _ (ih h)
    · simp only [hb, cond_true, Option.some.injEq] at h
      rw [(beq_iff _ _).1 hb, h]; exact List.mem_cons_self
/-- The call of the chapter's examples, which returns true. -/
abbrev awakeS {A : Alg} : List (SV A) → SH A → Nat → KS A → A.R := fun args M snx K => match args with | [] => K (.b (A.ofB true)) M snx [] | _ => A.fail "awake"
theorem awake_ok {aw d : Nat} : SpecOK (fs := fs) (ov := ov) P aw d aw awakeS := by
  intro m _ args M snx K h ν largs H nx ha hM
  cases args with
  | cons x l => exact h.elim
  | nil =>
    rw [show largs = [] from ha, CN_awake]
    exact ⟨_, rfl, Nat.le_refl _, _, ν, .b true, M, snx, [], rfl, got_same hM rfl, h⟩
theorem pure_got {aw m g : Nat} {largs : List LV} {H : Hp} {nx : Nat} {lv : LV} (h : Pure P aw m g largs H nx lv) {M : SH (stdA fs ov)} {snx : Nat} {K : KS (stdA fs ov)} {v : SV (stdA fs ov)} (hM : HS ν M snx H nx) (hv : VS ν v lv) (hK : K v M snx []) : GotOp ν snx H nx K (CN P aw m (.f g) largs H nx) := by
  obtain ⟨r, h1, h2, h3, h4, h5, h6⟩ := h
  refine ⟨r, h1, by rw [h4]; exact h2, _, ν, v, M, snx, [], rfl, ⟨fun _ _ => rfl, fun id q o a b => (by have := (hM.lt id q o b).2; omega), by rw [h4]; exact Nat.le_refl _, Nat.le_refl _, ?_, by rw [h3]; exact hv, fun q hq => (by rw [h5] at hq; cases hq), fun q hq _ => h6 q hq, fun q hq => (by rw [h5] at hq; cases hq), fun e => absurd h4 e⟩, hK⟩
  exact hM.same h6 (by rw [h4]; exact Nat.le_refl _)
def LoopsAll (P : Program) (aw d : Nat) (lp : FuncId → LoopS (stdA fs ov)) : Prop := ∀ m, d ≤ m → ∀ g fn c, P.funcs[g]? = some fn → fn.body = some c → LoopsOK P (CN P aw m) LL c (lp g)
/-- No loop is told of. -/
abbrev noLoop {A : Alg} : FuncId → LoopS A := fun _ _ => none
theorem noLoop_ok {aw d : Nat} : LoopsAll (fs := fs) (ov := ov) P aw d noLoop := fun _ _ _ _ _ _ _ p rg f h => by cases h
theorem CN_turn {aw n r : Nat} : CN P aw (n + 1) (.r r) = evStep P LL (CN P aw n) (.r r) := by
  funext as H nx
  simp only [CN, known]
  rfl
theorem sCall_ok {aw d U : Nat} {l : SpL (stdA fs ov)} {lp : FuncId → LoopS (stdA fs ov)} (hsp : SpOK P aw d l) (haw : (spOf l aw).isSome = true) (hlp : LoopsAll P aw d lp) (hU : U ≤ LL) (hfs : fs.rng = rngAt P) : ∀ n, CallSOK (sCall P U (spOf l) lp n) (CN P aw (n + d))
  | 0 => ⟨fun g args M snx K h => h.elim, fun g args M snx K h => h.elim, fun g args M snx K h => h.elim⟩
  | n + 1 => ⟨fun g args M snx K h hy ν largs H nx ha hM => by
      simp only [sCall] at h
      cases hf : spOf l g with
      | some f =>
        simp only [hf] at h
        exact hsp _ (spOf_ok hf) _ (by omega) args M snx K h ν largs H nx ha hM
      | none =>
        simp only [hf] at h
        have hg : g ≠ aw := fun e => by rw [e] at hf; rw [hf] at haw; cases haw
        rw [show n + 1 + d = n + d + 1 by omega, CN_step hg]
        exact sFunc_ok (sCall_ok hsp haw hlp hU hfs n) hfs (fun g fn c h1 h2 => hlp _ (by omega) g fn c h1 h2) hU hy h ha hM,
    fun g args M snx K h hy ν largs H nx ha hM => by
      simp only [sCall] at h
      cases hf : spOf l g with
      | some f =>
        simp only [hf] at h
        exact (hsp _ (spOf_ok hf) _ (by omega) args M snx K h ν largs H nx ha hM).w
      | none =>
        simp only [hf] at h
        have hg : g ≠ aw := fun e => by rw [e] at hf; rw [hf] at haw; cases haw
        rw [show n + 1 + d = n + d + 1 by omega, CN_step hg]
        exact sFunc_okW (sCall_ok hsp haw hlp hU hfs n) hfs (fun g fn c h1 h2 => hlp _ (by omega) g fn c h1 h2) hU hy h ha hM,
    fun id args M snx K h ν largs H nx r ha hM hr => by
      simp only [sCall] at h
      rw [show n + 1 + d = n + d + 1 by omega, CN_turn]
      exact sTurn_ok (sCall_ok hsp haw hlp hU hfs n) hfs (fun g fn c h1 h2 => hlp _ (by omega) g fn c h1 h2) hU h ha hM hr⟩
/-- The end of a call that only reads. -/
structure doneK (lv : LV) (n : Nat) (v : SV (stdA fs ov)) (M : SH (stdA fs ov)) (snx' : Nat) (wr : List Nat) : Prop where
  v : ∀ (ν : Nm) (lv' : LV), VS ν v lv' → lv' = lv
  n : snx' = n
  w : wr = []
/-- A call whose symbolic run, from given names, gives a value without names and has written nothing. -/
theorem pure_of {aw d U n g : Nat} {l : SpL (stdA fs ov)} {lp : FuncId → LoopS (stdA fs ov)} (hsp : SpOK P aw d l) (haw : (spOf l aw).isSome = true) (hlp : LoopsAll P aw d lp) (hU : U ≤ LL) (hg : g ≠ aw) {m : Nat} (hm : m = n + d + 1)
    {args : List (SV (stdA fs ov))} {M : SH (stdA fs ov)} {snx : Nat} {lv : LV} (h : sFunc P U (sCall P U (spOf l) lp n) lp g args M snx (doneK lv snx))
    {ν : Nm} {largs : List LV} {H : Hp} {nx : Nat} (ha : VSL ν args largs) (hM : HS ν M snx H nx) (hfs : fs.rng = rngAt P := by rfl) (hy : noY args = true := by rfl) : Pure P aw m g largs H nx lv := by
  subst hm
  obtain ⟨r, h1, h2, o, ν', v, M', snx', wr, e, hG, ⟨hv, hs, hw⟩⟩ := sFunc_ok (sCall_ok hsp haw hlp hU hfs n) hfs (fun g fn c h1 h2 => hlp (n + d) (by omega) g fn c h1 h2) hU hy h ha hM
  cases e
  subst hs hw
  rw [← CN_step hg] at h1
  have hn : r.o.nx = nx := by
    by_cases e : r.o.nx = nx
    · exact e
    · exact absurd rfl (hG.same e)
  have hw : r.o.wr = [] := by
    cases hq : r.o.wr with
    | nil => rfl
    | cons q l => obtain ⟨id, hid, _⟩ := hG.wr q (by rw [hq]; simp); cases hid
  exact ⟨r, h1, by rw [← hn]; exact h2, hv _ _ hG.v, hn, hw, fun q hq => hG.keep q hq (by rw [hw]; simp)⟩
theorem hs_empty {H : Hp} {nx : Nat} : HS (fs := fs) (ov := ov) (fun _ => none) .l 0 H nx := ⟨fun id so h => (by simp [Al.get_l] at h), fun id r o h => (by cases h), fun id id' r o o' so so' h => by simp [Al.get_l] at h⟩

/-! ### Lists that came in -/
structure IsL (H : Hp) (nx : Nat) (ks : List CK) (h : Ll) (lv : LV) : Prop where
  rows : ∀ x ∈ h, x.length = ks.length
  at_ : (lv = .nils ∧ h = []) ∨ ∃ r o, r < nx ∧ (h.length = 0 ∨ ∃ lo, H.get r = some lo ∧ RD lo o ks h) ∧ ((o = 0 ∧ lv = .gs r 0 0 h.length) ∨ ∃ cap, h.length ≤ cap ∧ lv = .sl r o h.length cap)
noncomputable def lsMem {A : Alg} : Nat → List (List CK × A.L) → SH A
  | _, [] => .l
  | k, (ks, h) :: r => (lsMem (k + 1) r).set k (some (.list 0 ks false h))
theorem ls_in {H : Hp} {nx : Nat} : ∀ {l : List (List CK × Ll)} {lvs : List LV} (k : Nat), (∀ (i : Nat) (x : List CK × Ll) (lv : LV), l[i]? = some x → lvs[i]? = some lv → IsL H nx x.1 x.2 lv) → l.length = lvs.length →
    ∃ ν : Nm, (∀ id, id < k ∨ k + l.length ≤ id → ν id = none) ∧ (∀ id r o, ν id = some (r, o) → r < nx ∧ id < k + l.length) ∧ (∀ id so, (lsMem (A := stdA fs ov) k l).get id = some so → k ≤ id ∧ id < k + l.length ∧ so.mine = false ∧ OS ν H id so) ∧ ∀ i x lv, l[i]? = some x → lvs[i]? = some lv → VS (fs := fs) (ov := ov) ν (.ls false (k + i) (x.2.length : Int)) lv
  | [], lvs, k, h, hl => ⟨fun _ => none, fun _ _ => rfl, fun _ _ _ h => (by cases h), fun id so h => (by simp [lsMem, Al.get_l] at h), fun i x lv h => by simp at h⟩
  | (ks, hh) :: l, [], k, h, hl => by simp at hl
  | (ks, hh) :: l, lv0 :: lvs, k, h, hl => by
    obtain ⟨ν, n1, n2, n3, n4⟩ := ls_in (l := l) (lvs := lvs) (k + 1) (fun i x lv h1 h2 => h (i + 1) x lv (by simpa using h1) (by simpa using h2)) (by simpa using hl)
    have h0 := h 0 _ _ rfl rfl
    have hk : ν k = none := n1 k (.inl (by omega))
    have hle : ∀ x : Option (Nat × Nat), NLe ν (updN ν k x) := fun x id y hy => by rw [updN_ne fun e => by subst e; rw [hk] at hy; cases hy]; exact hy
    have rest : ∀ (x : Option (Nat × Nat)), (∀ r o, x = some (r, o) → r < nx) → VS (fs := fs) (ov := ov) (updN ν k x) (.ls false k (hh.length : Int)) lv0 → OS (fs := fs) (ov := ov) (updN ν k x) H k (.list 0 ks false hh) →
        ∃ ν : Nm, (∀ id, id < k ∨ k + (l.length + 1) ≤ id → ν id = none) ∧ (∀ id r o, ν id = some (r, o) → r < nx ∧ id < k + (l.length + 1)) ∧ (∀ id so, (lsMem (A := stdA fs ov) k ((ks, hh) :: l)).get id = some so → k ≤ id ∧ id < k + (l.length + 1) ∧ so.mine = false ∧ OS ν H id so) ∧ ∀ i x lv, ((ks, hh) :: l)[i]? = some x → (lv0 :: lvs)[i]? = some lv → VS (fs := fs) (ov := ov) ν (.ls false (k + i) (x.2.length : Int)) lv := fun x hx hv hO => by
      refine ⟨updN ν k x, fun id hid => ?_, fun id r o hr => ?_, fun id so hg => ?_, fun i y lv hi hlv => ?_⟩
      · rw [updN_ne (by omega)]; exact n1 id (by omega)
      · by_cases e : id = k
        · subst e; rw [updN_same] at hr; exact ⟨hx r o hr, by omega⟩
        · rw [updN_ne e] at hr; have := n2 id r o hr; omega
      · simp only [lsMem, Al.get_set] at hg
        split at hg
        · rename_i e; subst e; cases hg; exact ⟨by omega, by omega, rfl, hO⟩
        · rename_i e
          obtain ⟨a, b, c, d⟩ := n3 id so hg
          exact ⟨by omega, by omega, c, d.sub (hle x) (updN_ne e) fun _ _ _ _ h => h⟩
      · cases i with
        | zero => simp at hi hlv; subst hi hlv; exact hv
        | succ i =>
          have := (n4 i y lv (by simpa using hi) (by simpa using hlv)).mono (hle x)
          rwa [show k + (i + 1) = k + 1 + i by omega]
    obtain ⟨hr, ⟨rfl, rfl⟩ | ⟨r, o, a1, a23, a4⟩⟩ := h0
    · exact rest none (fun _ _ h => by cases h) ⟨by simp, .inl ⟨rfl, by simp⟩⟩ ⟨hr, .inl rfl, fun h => by cases h⟩
    · refine rest (some (r, o)) (fun _ _ h => by cases h; exact a1) ⟨Int.natCast_nonneg _, .inr ⟨r, o, updN_same, ?_⟩⟩ ⟨hr, a23.imp_right fun ⟨lo, a2, a3⟩ => ⟨r, o, lo, updN_same, a2, a3⟩, fun h => by cases h⟩
      rcases a4 with ⟨rfl, rfl⟩ | ⟨cap, b1, rfl⟩
      · exact .inl ⟨rfl, by simp⟩
      · exact .inr ⟨rfl, cap, by simpa using b1, by simp⟩
theorem hs_in {H : Hp} {nx : Nat} {l : List (List CK × Ll)} {ν : Nm} (n2 : ∀ id r o, ν id = some (r, o) → r < nx ∧ id < 0 + l.length) (n3 : ∀ id so, (lsMem (A := stdA fs ov) 0 l).get id = some so → 0 ≤ id ∧ id < 0 + l.length ∧ so.mine = false ∧ OS ν H id so) : HS ν (lsMem (A := stdA fs ov) 0 l) l.length H nx :=
  ⟨fun id so h => ⟨by have := (n3 id so h).2.1; omega, (n3 id so h).2.2.2⟩, fun id r o h => ⟨(n2 id r o h).1, by have := (n2 id r o h).2; omega⟩, fun id id' r o o' so so' h hm => by rw [(n3 id so h).2.2.1] at hm; cases hm⟩
end Go.Rx

set_option linter.unusedSimpArgs false
set_option linter.unusedVariables false
set_option linter.unusedSectionVars false
namespace Go.Rx
open Go
variable {fs : Fs} {ov : Bool} {ν : Nm} {P : Program}

theorem SpecOK.mono {aw d d' g : Nat} {f : List (SV (stdA fs ov)) → SH (stdA fs ov) → Nat → KS (stdA fs ov) → Prop} (h : SpecOK P aw d g f) (hd : d ≤ d') : SpecOK P aw d' g f := fun m hm => h m (by omega)
theorem SpOK.nil {aw d : Nat} : SpOK (fs := fs) (ov := ov) P aw d [] := fun x hx => by cases hx
theorem SpOK.cons {aw d g : Nat} {f : List (SV (stdA fs ov)) → SH (stdA fs ov) → Nat → KS (stdA fs ov) → Prop} {l : SpL (stdA fs ov)} (h : SpecOK P aw d g f) (h' : SpOK P aw d l) : SpOK P aw d ((g, f) :: l) := fun x hx => by
  rcases List.mem_cons.1 hx with rfl | hx
  · exact h
  · exact h' x hx
theorem SpOK.mono {aw d d' : Nat} {l : SpL (stdA fs ov)} (h : SpOK P aw d l) (hd : d ≤ d') : SpOK P aw d' l := fun x hx => (h x hx).mono hd
theorem LoopsAll.mono {aw d d' : Nat} {lp : FuncId → LoopS (stdA fs ov)} (h : LoopsAll P aw d lp) (hd : d ≤ d') : LoopsAll P aw d' lp := fun m hm => h m (by omega)
section
variable {aw m L n : Nat} (hmix : P.follows .mixedOrders = true) (hname : ∀ (g : Nat) (fn : Func) (c : Code), P.funcs[g]? = some fn → fn.body = some c → (fn.name == "runtime.NumGoroutine") = false) (haw : yields P L [] n aw [] (.b true) = true)
include hmix hname haw
theorem CN_ok : CallOK P (CN P aw m) := by
  have ht : TabOK P [(aw, [([], .b true)])] := tab_one hmix hname tab_none haw
  exact known_ok ht (evKnown_ok hmix hname ht m)
/-- A call of the run that returns true is one of the machine. -/
theorem law_calls {g : Nat} {args : List LV} {H : Hp} {nx : Nat} (h : Pure P aw m g args H nx (.b true)) {R : Ren} {w : World} {vs : List Value} (hR : Rel R H w) (hv : VRL R args vs) (hf : ∀ id, nx ≤ id → R id = none) :
    Calls P g vs.toArray w fun e w' => e = .returned (.bool true) ∧ Go.RowKit.Below w.heap.size w w' := by
  obtain ⟨r, h1, h2, h3, h4, h5, h6⟩ := h
  have := ((CN_ok (m := m) hmix hname haw) (.f g) args H nx r h1 R w vs hR hv (fun id hid _ => hf id hid)).2
  have := (callsIn_wide (n := 0)).1 (show CallsIn Fence.wide 0 P g vs.toArray w _ from this 0)
  refine this.mono ?_
  rintro e w' ⟨u, rfl, R', hx, _, hu⟩
  rw [h3] at hu
  rw [show u = .bool true from hu]
  rw [h5] at hx
  exact ⟨rfl, hx.quiet.os, hx.quiet.tape, hx.quiet.output, hx.size, fun b hb => hx.keep b hb fun id hid => by cases hid⟩
end
theorem rel_empty {w : World} : Rel (fun _ => none) .l w := ⟨fun id o ho => by simp [Tr.get_l] at ho, fun id id' o o' b c c' h1 => by simp [Tr.get_l] at h1⟩
theorem vrl_ints {R : Ren} : ∀ (l : List Int), VRL R (l.map (LV.i .i64)) (l.map (Value.int .i64))
  | [] => rfl
  | x :: l => VRL.cons rfl (vrl_ints l)
theorem vr_agg {R : Ren} (l : List Int) : VR R (.agg (l.map (LV.i .i64))) (.agg (l.map (Value.int .i64)).toArray) := ⟨_, rfl, by simpa using vrl_ints l⟩
theorem cond_iff {p : Prop} [Decidable p] {a b : Prop} : (cond (decide p) a b) = ((p → a) ∧ (¬ p → b)) := by
  by_cases h : p <;> simp [h]
theorem cond_not {b : Bool} {x y : Prop} : (cond (!b) x y) = cond b y x := by cases b <;> rfl
theorem InK64 {n : Int} : InK .i64 n = (-9223372036854775808 ≤ n ∧ n ≤ 9223372036854775807) := rfl
end Go.Rx

set_option linter.unusedSimpArgs false
set_option linter.unusedVariables false
set_option linter.unusedSectionVars false
namespace Go.Rx
open Go
variable {fs : Fs} {ov : Bool} {ν : Nm} {P : Program} {W : Nat → Prop}

/-! ### What a text writes of the frame -/
theorem putT_frame {L L' : Tr LV} {N : Nat} {dst : Option Tmp} {v : LV} (h : putT L N dst v = some L') {t : Nat} (ht : ∀ d, dst = some d → t ≠ d) : L'.get t = L.get t := by
  cases dst with
  | none => simp [putT] at h; rw [← h]
  | some d =>
    simp only [putT] at h
    cases hb : Nat.blt d N
    · simp [hb] at h
    · simp [hb, Tr.force_eq] at h
      rw [← h, Tr.get_set_ne _ _ (ht d rfl)]
theorem dsts_cons {o : Oper} {l : List Oper} {t : Nat} (h : t ∉ dsts (o :: l)) : (∀ d, o.dst = some d → t ≠ d) ∧ t ∉ dsts l := by
  simp only [dsts] at h
  cases hd : o.dst with
  | none => rw [hd] at h; exact ⟨(fun d e => by cases e), h⟩
  | some d =>
    rw [hd] at h
    simp only [List.mem_cons, not_or] at h
    exact ⟨fun d' e => by cases e; exact h.1, h.2⟩
theorem evOps_frame {call : CallT} {ops : Array Oper} {t : Nat} : ∀ {l : List Oper} {s s' : Rx.S}, evOps P call ops l s = some s' → t ∉ dsts l → s'.T.get t = s.T.get t
  | [], s, s', h, _ => by simp [evOps] at h; rw [h]
  | o :: l, s, s', h, ht => by
    obtain ⟨h1, h2⟩ := dsts_cons ht
    rcases evOps_cons h with ⟨_, T', hp, h'⟩ | ⟨_, r, T', _, _, _, hp, h'⟩
    · rw [evOps_frame h' h2]; exact putT_frame hp h1
    · rw [evOps_frame h' h2]; exact putT_frame hp h1
theorem evDrawn_frame {call : CallT} {ops : Array Oper} {ms : Tr Nat} {H₀ : Hp} {t : Nat} : ∀ {l : List Oper} {k : Nat} {s s' : Rx.S} {g g' : Log}, evDrawn P call ops ms H₀ l k s g = some (s', g') → t ∉ dsts l → s'.T.get t = s.T.get t
  | [], k, s, s', g, g', h, _ => by simp [evDrawn] at h; rw [h.1]
  | o :: l, k, ⟨T, N, H₁, nx, wr, df, mx⟩, s', ⟨ds, hl, fl⟩, g', h, ht => by
    obtain ⟨h1, h2⟩ := dsts_cons ht
    simp only [evDrawn] at h
    split at h
    · cases h
    · split at h
      · rename_i T' hp
        rw [nN_eq] at h
        rw [evDrawn_frame h h2]; exact putT_frame hp h1
      · cases h
    · split at h
      · cases h
      · rw [Tr.force_eq] at h
        split at h
        · cases h
        · cases hb : (Nat.ble nx _ && Nat.ble _ _ && allIn _ nx _ && quietWith _ _ _ fl hl) <;> rw [hb] at h
          · cases h
          · simp only [cond_true] at h
            split at h
            · rename_i T' hp
              simp only [nN_eq] at h
              rw [evDrawn_frame h h2]; exact putT_frame hp h1
            · cases h
theorem evRegion_frame {call : CallT} {ops : Array Oper} {draw : Bool} {t : Nat} {s s' : Rx.S} {e : Ex} (h : evRegion P call ops draw s = some (e, s')) (ht : t ∉ dsts ops.toList) : s'.T.get t = s.T.get t := by
  have h' := (evRegion_up h).2.2
  cases draw with
  | true =>
    simp only [if_true] at h'
    obtain ⟨ms, s'', g, hr, hd, rfl⟩ := evDraw_eq h'
    have := evDrawn_frame (t := t) hd ht
    exact this
  | false =>
    simp only [Bool.false_eq_true, if_false] at h'
    exact evOps_frame h' ht
theorem evLoop_frame {f : Rx.S → Option (Ex × Rx.S)} {t : Nat} (hf : ∀ s e s', f s = some (e, s') → s'.T.get t = s.T.get t) : ∀ {n : Nat} {s s' : Rx.S} {e : Ex}, evLoop n f s = some (e, s') → s'.T.get t = s.T.get t
  | 0, s, s', e, h => by cases h
  | n + 1, s, s', e, h => by
    simp only [evLoop] at h
    split at h
    · rename_i s1 h1
      rw [evLoop_frame hf h, hf _ _ _ h1]
    · exact hf _ _ _ h
theorem evRange_frame {call : CallT} {ro : Option Nat} {f : Operand} {ps : Array Tmp} {as body : Code} {s s' : Rx.S} {e : Ex} (h : evRange call ro f ps as body s = some (e, s')) : s'.T = s.T := by
  obtain ⟨T, N, H, d, wr, df, mx⟩ := s
  simp only [evRange] at h
  split at h
  · split at h
    · simp only [nN_eq, Tr.force_eq] at h
      obtain ⟨r', st, pend, N', T', ps', as', body', d', _, _, hle, _, _, rfl⟩ := endRange_ok h
      rfl
    · split at h
      · simp only [nN_eq, Tr.force_eq] at h
        obtain ⟨r', st, pend, N', T', ps', as', body', d', _, _, hle, _, _, rfl⟩ := endRange_ok h
        rfl
      · cases h
  · cases h
theorem evC_frame {call : CallT} {ro : Option Nat} {L : Nat} {t : Nat} : ∀ {c : Code} {s s' : Rx.S} {e : Ex}, evC P call ro L c s = some (e, s') → t ∉ writes c → s'.T.get t = s.T.get t
  | .skip, s, s', e, h, _ => by simp [evC] at h; rw [h.2]
  | .region _ ops draw, s, s', e, h, ht => evRegion_frame (by simpa only [evC] using h) ht
  | .seq x y, s, s', e, h, ht => by
    simp only [writes, List.mem_append, not_or] at ht
    simp only [evC] at h
    cases hx : evC P call ro L x s with
    | none => simp [hx] at h
    | some q =>
      obtain ⟨e1, s1⟩ := q
      have h1 := evC_frame hx ht.1
      cases e1 <;> simp only [hx] at h
      case normal => rw [evC_frame h ht.2, h1]
      all_goals (simp at h; obtain ⟨_, rfl⟩ := h; exact h1)
  | .cond c x y, s, s', e, h, ht => by
    simp only [writes, List.mem_append, not_or] at ht
    simp only [evC] at h
    split at h
    · exact evC_frame h ht.1
    · exact evC_frame h ht.2
    · cases h
  | .block id c, s, s', e, h, ht => by
    simp only [evC] at h
    cases hx : evC P call ro L c s with
    | none => simp [hx] at h
    | some q =>
      obtain ⟨e1, s1⟩ := q
      have h1 := evC_frame hx ht
      cases e1 <;> simp only [hx] at h
      case exit j =>
        cases hb : Nat.beq j id <;> simp [hb] at h <;> obtain ⟨_, rfl⟩ := h <;> exact h1
      all_goals (simp at h; obtain ⟨_, rfl⟩ := h; exact h1)
  | .loop c, s, s', e, h, ht => by
    simp only [evC] at h
    exact evLoop_frame (f := fun s => evC P call ro L c s) (fun s e s' h => evC_frame h ht) h
  | .rangeFunc f ps as body, s, s', e, h, _ => by rw [evRange_frame (by simpa only [evC] using h)]
  | .exit id, s, s', e, h, _ => by simp [evC] at h; rw [h.2]
  | .scope c, s, s', e, h, ht => by
    simp only [evC] at h
    cases hx : evC P call ro L c s with
    | none => simp [hx] at h
    | some q =>
      obtain ⟨e1, s1⟩ := q
      have h1 := evC_frame hx ht
      cases e1 <;> simp [hx] at h <;> obtain ⟨_, rfl⟩ := h <;> exact h1
  | .label l, s, s', e, h, _ => by simp [evC] at h; rw [h.2]
  | .goto l, s, s', e, h, _ => by simp [evC] at h; rw [h.2]
  | .ret, s, s', e, h, _ => by simp [evC] at h; rw [h.2]
  | .refuse _, s, s', e, h, _ => by simp [evC] at h

/-! ### The rule -/
theorem get_wipe {α : Type} (T : Al α) : ∀ (ws : List Nat) (t : Nat), (wipe ws T).get t = if t ∈ ws then none else T.get t
  | [], t => by simp [wipe]
  | x :: ws, t => by
    simp only [wipe, Al.get_set, get_wipe T ws t]
    by_cases e : t = x
    · simp [e]
    · simp [e]
theorem get_push {α : Type} (T : Al α) : ∀ {l : List (Nat × α)} {t : Nat} {v : α}, (push l T).get t = some v → (t, v) ∈ l ∨ ((∀ x ∈ l, x.1 ≠ t) ∧ T.get t = some v)
  | [], t, v, h => .inr ⟨(fun x hx => by cases hx), h⟩
  | (k, x) :: l, t, v, h => by
    simp only [push, Al.get_set] at h
    split at h
    · rename_i e; subst e; cases h; exact .inl (by simp)
    · rename_i e
      rcases get_push T h with h | ⟨h1, h2⟩
      · exact .inl (by simp [h])
      · refine .inr ⟨fun x hx => ?_, h2⟩
        rcases List.mem_cons.1 hx with rfl | hx
        · exact fun h => e h.symm
        · exact h1 x hx
theorem subW_ok {l m : List Nat} (h : subW l m = true) : ∀ id ∈ l, id ∈ m := by
  induction l with
  | nil => intro id hid; cases hid
  | cons x l ih =>
    simp only [subW, Bool.and_eq_true] at h
    intro id hid
    rcases List.mem_cons.1 hid with rfl | hid
    · simpa using h.1
    · exact ih h.2 id hid
theorem gets_ok {α : Type} {T : Al α} : ∀ {ts : List Nat} {vs : List α}, gets T ts = some vs → ∀ x ∈ ts.zip vs, T.get x.1 = some x.2
  | [], vs, h, x, hx => by simp at hx
  | t :: ts, vs, h, x, hx => by
    simp only [gets] at h
    cases h1 : T.get t with
    | none => simp [h1] at h
    | some v =>
      cases h2 : gets T ts with
      | none => simp [h1, h2] at h
      | some r =>
        simp [h1, h2] at h; subst h
        simp only [List.zip_cons_cons, List.mem_cons] at hx
        rcases hx with rfl | hx
        · exact h1
        · exact gets_ok h2 x hx
section
variable {s : SS (stdA fs ov)} {S : Rx.S} {c : Code} {B : List Nat}
/-- What has been read off a later state holds of the state that is laid anew. -/
theorem sim_hd {ν' : Nm} {s' : SS (stdA fs ov)} {S' : Rx.S} {W' W0 : Nat → Prop} (hs : Sim W0 ν s S) (hx : XT ν (⟨s.T, s.N, s.H, s.nx, []⟩ : SS (stdA fs ov)) S ν' s' S') (hs' : Sim W' ν' s' S') (hfr : ∀ t, t ∉ writes c → S'.T.get t = S.T.get t) (hN : S'.N = S.N) (hw : ∀ id ∈ s'.wr, id < s.nx → id ∈ B)
    {sl : List (Nat × SV (stdA fs ov))} {bl : List (Nat × SO (stdA fs ov))} (h1 : ∀ x ∈ sl, s'.T.get x.1 = some x.2 ∧ x.2.lt s.nx = true) (h2 : ∀ x ∈ bl, s'.H.get x.1 = some x.2 ∧ x.2.lt s.nx = true) (hB : ∀ id ∈ B, ∃ x ∈ bl, x.1 = id) (hBm : ∀ id ∈ B, ∃ so, s.H.get id = some so ∧ so.mine = true) (hbm : ∀ x ∈ bl, x.1 ∈ B ∧ x.2.mine = true)
    {wr : List Nat} (hwr : ∀ q ∈ S'.wr, W q ∨ ∃ id ∈ wr, ∃ o, ν id = some (q, o)) (hup : ∀ q, S'.nx ≤ q → W q) : Sim W ν (hdS c s sl bl wr) S' := by
  refine ⟨hN.trans hs.N, ⟨fun t v hv => ?_⟩, ⟨fun id so hg => ?_, fun id r o h => ?_, fun id id' r o o' so so' hg hm hg' h3 h4 => ?_⟩, hs'.mx, hwr, hup⟩
  · rcases get_push _ hv with hv | ⟨_, hv⟩
    · obtain ⟨a, b⟩ := h1 _ hv
      obtain ⟨lv, d, e⟩ := hs'.T.at_ t v a
      exact ⟨lv, d, vs_low hx.lo b e⟩
    · rw [get_wipe] at hv
      split at hv
      · cases hv
      · rename_i hn
        obtain ⟨lv, a, b⟩ := hs.T.at_ t v hv
        exact ⟨lv, by rw [hfr t hn]; exact a, b⟩
  · rcases get_push _ hg with hg | ⟨hno, hg⟩
    · obtain ⟨a, b⟩ := h2 _ hg
      obtain ⟨so1, c1, _⟩ := hBm id (hbm _ hg).1
      have hid := (hs.H.at_ id so1 c1).1
      exact ⟨hid, (hs'.H.at_ id so a).2.low hx.lo hid b⟩
    · obtain ⟨a, b⟩ := hs.H.at_ id so hg
      refine ⟨a, b.same fun r o lo hr hl => ?_⟩
      have hrS := (hs.H.lt id r o hr).1
      rw [hx.keepS r hrS fun id2 hid2 o2 he => ?_]
      · exact hl
      · by_cases hlt : id2 < s.nx
        · have hB2 := hw id2 hid2 hlt
          obtain ⟨so2, c1, c2⟩ := hBm id2 hB2
          rw [hx.lo id2 hlt] at he
          have := hs.H.inj id2 id r o2 o so2 so c1 c2 hg he hr
          subst this
          obtain ⟨x, d1, d2⟩ := hB id2 hB2
          exact hno x d1 d2
        · rcases hx.nw id2 r o2 (by show s.nx ≤ id2; omega) he with h9 | ⟨id0, h9, hlt0, o9, he0⟩
          · omega
          · have hB2 := hw id0 h9 hlt0
            obtain ⟨so2, c1, c2⟩ := hBm id0 hB2
            rw [hx.lo id0 hlt0] at he0
            have := hs.H.inj id0 id r o9 o so2 so c1 c2 hg he0 hr
            subst this
            obtain ⟨x, d1, d2⟩ := hB id0 hB2
            exact hno x d1 d2
  · have h' := hs.H.lt id r o h
    exact ⟨Nat.lt_of_lt_of_le h'.1 hx.up, h'.2⟩
  · have hid : ∃ so1, s.H.get id = some so1 ∧ so1.mine = true := by
      rcases get_push _ hg with hg | ⟨_, hg⟩
      · exact hBm id (hbm _ hg).1
      · exact ⟨so, hg, hm⟩
    obtain ⟨so1, c1, c2⟩ := hid
    obtain ⟨so3, c3⟩ : ∃ so3, s.H.get id' = some so3 := by
      rcases get_push _ hg' with hg' | ⟨_, hg'⟩
      · obtain ⟨so3, c3, _⟩ := hBm id' (hbm _ hg').1; exact ⟨so3, c3⟩
      · exact ⟨so', hg'⟩
    exact hs.H.inj id id' r o o' so1 so3 c1 c2 c3 h3 h4
theorem ltO_ok {n : Nat} : ∀ {os : List (SO (stdA fs ov))}, ltO n os = true → ∀ o ∈ os, o.lt n = true
  | [], _, o, h => by cases h
  | x :: l, h, o, ho => by
    simp only [ltO, Bool.and_eq_true] at h
    rcases List.mem_cons.1 ho with rfl | ho
    · exact h.1
    · exact ltO_ok h.2 o ho
theorem ltL_ok {n : Nat} : ∀ {vs : List (SV (stdA fs ov))}, SV.ltL n vs = true → ∀ o ∈ vs, o.lt n = true
  | [], _, o, h => by cases h
  | x :: l, h, o, ho => by
    simp only [SV.ltL, Bool.and_eq_true] at h
    rcases List.mem_cons.1 ho with rfl | ho
    · exact h.1
    · exact ltL_ok h.2 o ho
theorem loop_rule {cs : CallS (stdA fs ov)} {call : CallT} (hc : CallSOK cs call) {root : Code} {lp : LpG (stdA fs ov)} {L U : Nat} {ro : Option Nat} (hl : CtxOK P call L root lp ro) (hU : U ≤ L) {p : List Bool} (hp : codeAt root p = some (.loop c))
    {X : Type} {Inv : X → Prop} {μ : X → Nat} {ts : Ex → List Nat} {sl : X → List (SV (stdA fs ov))} {bl : X → List (SO (stdA fs ov))} {Q : Ex → List (SV (stdA fs ov)) → List (SO (stdA fs ov)) → Prop} {K : Ex → SS (stdA fs ov) → Prop}
    (hbl : ∀ x, (bl x).length = B.length ∧ ∀ o ∈ bl x, o.mine = true) (hBm : ∀ id ∈ B, ∃ so, s.H.get id = some so ∧ so.mine = true)
    (hb : ∀ x, Inv x → sCode P cs lp U (false :: p) c (hdS c s ((ts .normal).zip (sl x)) (B.zip (bl x)) []) (outK s.nx ts B fun e vs os => match e with
      | .normal => ∃ x', Inv x' ∧ μ x' < μ x ∧ vs = sl x' ∧ os = bl x'
      | e => os.length = B.length ∧ (∀ o ∈ os, o.mine = true) ∧ Q e vs os))
    (hK : ∀ e vs os, e ≠ .normal → Q e vs os → K e (hdS c s ((ts e).zip vs) (B.zip os) (addW B s.wr)))
    {W : Nat → Prop} {ν : Nm} {S : Rx.S} {x : X} (hx : Inv x) (hμ : μ x < L) (h1 : ∀ y ∈ (ts .normal).zip (sl x), s.T.get y.1 = some y.2 ∧ y.2.lt s.nx = true) (h2 : ∀ y ∈ B.zip (bl x), s.H.get y.1 = some y.2 ∧ y.2.lt s.nx = true) (hs : Sim W ν s S) : GoC W ν s S K (evLoop L (fun s => evC P call ro L c s) S) := by
  have mem_zip : ∀ {os : List (SO (stdA fs ov))}, os.length = B.length → ∀ id ∈ B, ∃ y ∈ B.zip os, y.1 = id := by
    intro os ho id hid
    obtain ⟨i, hi, rfl⟩ := List.getElem_of_mem hid
    exact ⟨(B[i], os[i]'(by omega)), by rw [List.mem_iff_getElem]; exact ⟨i, by simp; omega, by simp⟩, rfl⟩
  have zip_mine : ∀ {os : List (SO (stdA fs ov))}, (∀ o ∈ os, o.mine = true) → ∀ y ∈ B.zip os, y.1 ∈ B ∧ y.2.mine = true := fun hm y hy => by
    obtain ⟨a, b⟩ := y
    exact ⟨(List.of_mem_zip hy).1, hm b (List.of_mem_zip hy).2⟩
  have hB1 : ∀ id ∈ B, id < s.nx := fun id hid => by obtain ⟨so, h, _⟩ := hBm id hid; exact (hs.H.at_ id so h).1
  have hnw : ∀ id q o, s.nx ≤ id → ν id = some (q, o) → S.nx ≤ q := fun id q o h1 h2 => by have := (hs.H.lt id q o h2).2; omega
  -- the rounds, from a head state on
  have key : ∀ (n : Nat) (x : X) (S1 : Rx.S), Inv x → μ x < n → XT ν (⟨s.T, s.N, s.H, s.nx, []⟩ : SS (stdA fs ov)) S ν (hdS c s ((ts .normal).zip (sl x)) (B.zip (bl x)) B) S1 → (∀ t, t ∉ writes c → S1.T.get t = S.T.get t) → Sim (fun q => q ∈ S1.wr ∨ S1.nx ≤ q) ν (hdS c s ((ts .normal).zip (sl x)) (B.zip (bl x)) []) S1 → (∀ q ∈ S1.wr, q ∈ S.wr ∨ S.nx ≤ q ∨ ∃ id ∈ B, ∃ o, ν id = some (q, o)) → GoC W ν s S K (evLoop n (fun s => evC P call ro L c s) S1) := by
    intro n
    induction n with
    | zero => intro x S1 _ h; omega
    | succ n ih =>
      intro x S1 hi hm hxt hfr hsim hwr
      obtain ⟨e, S2, ν2, s2, k1, k2, k3, k4⟩ := sCode_ok (ro := ro) hc hl.hl hl.hr hl.hroot hU hl.hro (hb x hi) (by simp [codeAt, hp]) hsim
      simp only [outK] at k4
      split at k4
      · rename_i vs os hvs hos
        cases hbb : (Nat.ble s.nx s2.nx && subW (below s.nx s2.wr) B && SV.ltL s.nx vs && ltO s.nx os) with
        | false => simp only [hbb, cond_false] at k4 <;> exact k4.elim
        | true =>
          simp only [hbb, cond_true] at k4
          simp only [Bool.and_eq_true] at hbb
          obtain ⟨⟨⟨hn, hw⟩, hvl⟩, hol⟩ := hbb
          have hw : ∀ id ∈ s2.wr, id < s.nx → id ∈ B := fun id h1 h2 => subW_ok hw id (mem_below.2 ⟨h1, h2⟩)
          have hfr2 : ∀ t, t ∉ writes c → S2.T.get t = S.T.get t := fun t ht => by rw [evC_frame k1 ht, hfr t ht]
          have hup := evC_up k1
          have hN : S2.N = S.N := by
            have a := hup.N; have b := hsim.N; have d := hs.N
            rw [a, b, d]
          -- from the entry on
          have hx2 : XT ν (⟨s.T, s.N, s.H, s.nx, []⟩ : SS (stdA fs ov)) S ν2 ⟨s2.T, s2.N, s2.H, s2.nx, ap' B s2.wr⟩ S2 := by
            have k2' : XT ν (hdS c s ((ts .normal).zip (sl x)) (B.zip (bl x)) B) S1 ν2 ⟨s2.T, s2.N, s2.H, s2.nx, ap' B s2.wr⟩ S2 :=
              ⟨k2.lo, fun id q o h1 h2 => (k2.nw id q o h1 h2).imp_right fun ⟨id0, a1, a2⟩ => ⟨id0, (by rw [ap'_eq]; exact List.mem_append_right _ a1), a2⟩, k2.up, k2.sup, k2.wr, fun id h => (by rw [ap'_eq]; exact List.mem_append_left _ h), fun q hq hn => k2.keepS q hq fun id hid => hn id (by rw [ap'_eq]; exact List.mem_append_right _ hid), k2.keep, k2.has, k2.df⟩
            exact hxt.trans (W := fun q => q ∈ S1.wr ∨ S1.nx ≤ q) ⟨hsim.N, hsim.T, hsim.H, hsim.mx, fun q hq => .inl (.inl hq), fun q hq => .inr hq⟩ k2'
          have hwB : ∀ id ∈ ap' B s2.wr, id < s.nx → id ∈ B := fun id h1 h2 => by
            rw [ap'_eq] at h1
            exact (List.mem_append.1 h1).elim (fun h => h) fun h => hw id h h2
          have hwr2 : ∀ q ∈ S2.wr, q ∈ S.wr ∨ S.nx ≤ q ∨ ∃ id ∈ B, ∃ o, ν id = some (q, o) := fun q hq => by
            rcases k3.wr q hq with (h | h) | ⟨id, h1, o, h2⟩
            · exact hwr q h
            · exact .inr (.inl (Nat.le_trans hxt.up h))
            · by_cases hlt : id < s.nx
              · exact .inr (.inr ⟨id, hw id h1 hlt, o, by rw [← hx2.lo id hlt]; exact h2⟩)
              · rcases hx2.nw id q o (by show s.nx ≤ id; omega) h2 with h3 | ⟨id0, a1, a2, o0, a3⟩
                · exact .inr (.inl h3)
                · exact .inr (.inr ⟨id0, hwB id0 a1 a2, o0, by rw [← hx2.lo id0 a2]; exact a3⟩)
          have lay : ∀ {vs os ts'} {wr : List Nat} {W2 : Nat → Prop}, gets s2.T ts' = some vs → SV.ltL s.nx vs = true → ltO s.nx os = true → os.length = B.length → (∀ o ∈ os, SO.mine o = true) → gets s2.H B = some os → (∀ q ∈ S2.wr, W2 q ∨ ∃ id ∈ wr, ∃ o, ν id = some (q, o)) → (∀ q, S2.nx ≤ q → W2 q) → Sim W2 ν (hdS c s (ts'.zip vs) (B.zip os) wr) S2 := by
            intro vs os ts' wr W2 a1 b1 b2 a2 a3 a4 a5 a6
            exact sim_hd (W := W2) (B := B) hs hx2 (W' := fun q => q ∈ S2.wr ∨ S2.nx ≤ q) ⟨k3.N, k3.T, k3.H, k3.mx, fun q hq => .inl (.inl hq), fun q hq => .inr hq⟩ hfr2 hN hwB (fun y hy => ⟨gets_ok a1 y hy, ltL_ok b1 _ (List.of_mem_zip (show (y.1, y.2) ∈ _ from hy)).2⟩) (fun y hy => ⟨gets_ok a4 y hy, ltO_ok b2 _ (List.of_mem_zip (show (y.1, y.2) ∈ _ from hy)).2⟩) (mem_zip a2) hBm (zip_mine a3) a5 a6
          have same : ∀ {s3 : SS (stdA fs ov)} {s4 : SS (stdA fs ov)}, s3.nx = s.nx → s4.nx = s.nx → (∀ id ∈ s3.wr, id ∈ s4.wr) → (∀ id ∈ B, id ∈ s4.wr) → XT ν s3 S ν s4 S2 := fun {s3 s4} a1 a2 a3 a4 =>
            ⟨fun _ _ => rfl, fun id q o h1 h2 => .inl (hnw id q o (by rw [← a1]; exact h1) h2), hx2.up, by rw [a1, a2]; exact Nat.le_refl _, hx2.wr, a3, fun q hq hn => hx2.keepS q hq fun id hid o he => by
              by_cases hlt : id < s.nx
              · rw [hx2.lo id hlt] at he
                exact hn id (a4 id (hwB id hid hlt)) o he
              · rcases hx2.nw id q o (by show s.nx ≤ id; omega) he with h3 | ⟨id0, b1, b2, o0, b3⟩
                · omega
                · rw [hx2.lo id0 b2] at b3
                  exact hn id0 (a4 id0 (hwB id0 b1 b2)) o0 b3, hx2.keep, hx2.has, hx2.df.re fun d id o hd h => absurd (hs.H.lt id d o h).1 (by omega)⟩
          have stop : e ≠ .normal → os.length = B.length → (∀ o ∈ os, SO.mine o = true) → Q e vs os → GoC W ν s S K (some (e, S2)) := fun he a2 a3 hQ => by
            refine ⟨e, S2, ν, hdS c s ((ts e).zip vs) (B.zip os) (addW B s.wr), rfl, same rfl rfl (fun id hid => mem_addW.2 (.inr hid)) (fun id hid => mem_addW.2 (.inl hid)), lay (wr := addW B s.wr) (W2 := W) hvs hvl hol a2 a3 hos (fun q hq => ?_) (fun q hq => hs.wup q (Nat.le_trans hx2.up hq)), hK e vs os he hQ⟩
            rcases hwr2 q hq with h | h | ⟨id, h1, o, h2⟩
            · rcases hs.wr q h with h | ⟨id, h1, o, h2⟩
              · exact .inl h
              · exact .inr ⟨id, mem_addW.2 (.inr h1), o, h2⟩
            · exact .inl (hs.wup q h)
            · exact .inr ⟨id, mem_addW.2 (.inl h1), o, h2⟩
          simp only [evLoop, k1]
          cases e with
          | normal =>
            obtain ⟨x', i1, i2, rfl, rfl⟩ := k4
            have hb' := hbl x'
            exact ih x' S2 i1 (by omega) (same rfl rfl (fun _ h => by cases h) (fun _ h => h)) hfr2 (lay (W2 := fun q => q ∈ S2.wr ∨ S2.nx ≤ q) (wr := []) hvs hvl hol hb'.1 hb'.2 hos (fun q hq => .inl (.inl hq)) (fun q hq => .inr hq)) hwr2
          | exit j => exact stop (by simp) k4.1 k4.2.1 k4.2.2
          | goto j => exact stop (by simp) k4.1 k4.2.1 k4.2.2
          | ret => exact stop (by simp) k4.1 k4.2.1 k4.2.2
      · exact k4.elim
  have h0 : XT ν (⟨s.T, s.N, s.H, s.nx, []⟩ : SS (stdA fs ov)) S ν (⟨s.T, s.N, s.H, s.nx, []⟩ : SS (stdA fs ov)) S := XT.refl hs.H
  have hb' := hbl x
  refine key L x S hx hμ ⟨h0.lo, fun id q o h1 h2 => .inl (hnw id q o h1 h2), h0.up, Nat.le_refl _, h0.wr, (fun _ h => by cases h), (fun q _ _ => rfl), h0.keep, h0.has, h0.df⟩ (fun _ _ => rfl) ?_ fun q hq => .inl hq
  exact sim_hd (W := fun q => q ∈ S.wr ∨ S.nx ≤ q) (B := B) (W' := fun q => q ∈ S.wr ∨ S.nx ≤ q) hs h0 ⟨hs.N, hs.T, hs.H, hs.mx, fun q hq => .inl (.inl hq), fun q hq => .inr hq⟩ (fun _ _ => rfl) rfl (fun _ h => by cases h) h1 h2 (mem_zip hb'.1) hBm (zip_mine hb'.2) (fun q hq => .inl (.inl hq)) (fun q hq => .inr hq)
end
end Go.Rx

set_option linter.unusedSimpArgs false
set_option linter.unusedVariables false
set_option linter.unusedSectionVars false
namespace Go.Rx
open Go
variable {fs : Fs} {ov : Bool} {ν : Nm} {P : Program} {W : Nat → Prop}

theorem samePath_ok : ∀ {p q : List Bool}, samePath p q = true → p = q
  | [], [], _ => rfl
  | x :: p, y :: q, h => by
    simp only [samePath, Bool.and_eq_true] at h
    rw [samePath_ok h.2]
    have := h.1
    cases x <;> cases y <;> simp at this ⊢
  | [], _ :: _, h => by simp [samePath] at h
  | _ :: _, [], h => by simp [samePath] at h
/-- A loop that is told of comes to its end as is told. -/
def LoopOK (P : Program) (aw d g : Nat) (p : List Bool) (rg : Bool) (f : Code → SS (stdA fs ov) → (Ex → SS (stdA fs ov) → Prop) → Prop) : Prop := ∀ m, d ≤ m → ∀ fn c0, P.funcs[g]? = some fn → fn.body = some c0 → ∀ c ro, (rg = false → ro = none) → codeAt c0 p = some (.loop c) → ∀ s K W ν S, f c s K → Sim W ν s S → GoC W ν s S K (evLoop LL (fun s => evC P (CN P aw m) ro LL c s) S)
theorem lpOf_ok {aw d : Nat} : ∀ {l : LpL (stdA fs ov)}, (∀ x ∈ l, LoopOK P aw d x.1 x.2.1 x.2.2.1 x.2.2.2) → LoopsAll P aw d (lpOf l)
  | [], _ => fun _ _ _ _ _ _ _ p rg f h => by cases h
  | (g', p', rg', f') :: l, hl => fun m hm g fn c h1 h2 p rg f h => by
    simp only [lpOf] at h
    cases hb : (Nat.beq g g' && samePath p p')
    · simp only [hb, cond_false] at h
      exact lpOf_ok (fun x hx => hl x (List.mem_cons_of_mem _ hx)) m hm g fn c h1 h2 p rg f h
    · simp only [hb, cond_true, Option.some.injEq, Prod.mk.injEq] at h
      simp only [Bool.and_eq_true, beq_iff] at hb
      obtain ⟨rfl, hp⟩ := hb
      obtain rfl := samePath_ok hp
      obtain ⟨rfl, rfl⟩ := h
      exact hl _ List.mem_cons_self m hm fn c h1 h2
theorem body_of {g : Nat} {p : List Bool} {fn : Func} {c0 c : Code} (h1 : P.funcs[g]? = some fn) (h2 : fn.body = some c0) (h3 : codeAt c0 p = some (.loop c)) : bodyAt P g p = c := by
  simp only [bodyAt, h1, h2, h3]
/-- What is known of a state may be laid on its head. -/
theorem sim_push {s : SS (stdA fs ov)} {S : Rx.S} (hs : Sim W ν s S) {kt : List (Nat × SV (stdA fs ov))} {kr : List (Nat × SO (stdA fs ov))} (h1 : ∀ x ∈ kt, s.T.get x.1 = some x.2) (h2 : ∀ x ∈ kr, s.H.get x.1 = some x.2) : Sim W ν ⟨push kt s.T, s.N, push kr s.H, s.nx, s.wr⟩ S := by
  have g1 : ∀ {t v}, (push kt s.T).get t = some v → s.T.get t = some v := fun h => by
    rcases get_push _ h with h | h
    · exact h1 _ h
    · exact h.2
  have g2 : ∀ {id so}, (push kr s.H).get id = some so → s.H.get id = some so := fun h => by
    rcases get_push _ h with h | h
    · exact h2 _ h
    · exact h.2
  exact ⟨hs.N, ⟨fun t v hv => hs.T.at_ t v (g1 hv)⟩, ⟨fun id so hg => hs.H.at_ id so (g2 hg), hs.H.lt, fun id id' r o o' so so' hg hm hg' => hs.H.inj id id' r o o' so so' (g2 hg) hm (g2 hg')⟩, hs.mx, hs.wr, hs.wup⟩
/-- Of the frame of a range over a function less may be told. -/
theorem sim_frm {s : SS (stdA fs ov)} {S : Rx.S} (hs : Sim W ν s S) {id g N : Nat} {p : List Bool} {T : Al (SV (stdA fs ov))} {b : Bool} {e : Ex} {kt : List (Nat × SV (stdA fs ov))} (hg : s.H.get id = some (.frm g p N T b e)) (h1 : ∀ x ∈ kt, T.get x.1 = some x.2) : Sim W ν ⟨s.T, s.N, s.H.set id (some (.frm g p N (push kt .l) b e)), s.nx, s.wr⟩ S := by
  have g1 : ∀ {t v}, (push kt (.l : Al (SV (stdA fs ov)))).get t = some v → T.get t = some v := fun h => by
    rcases get_push _ h with h | h
    · exact h1 _ h
    · exact absurd h.2 (by simp [Al.get_l])
  refine ⟨hs.N, hs.T, ⟨fun id' so hg' => ?_, hs.H.lt, fun id1 id2 r o o' so so' h2 hm h3 => ?_⟩, hs.mx, hs.wr, hs.wup⟩
  · rw [Al.get_set] at hg'
    split at hg'
    · rename_i q; subst q; cases hg'
      obtain ⟨hlt, r, ps, as, body, d, L, a1, a2, a3, a4⟩ := hs.H.at_ _ _ hg
      exact ⟨hlt, r, ps, as, body, d, L, a1, a2, ⟨fun t v h => a3.at_ t v (g1 h)⟩, a4⟩
    · exact hs.H.at_ id' so hg'
  · have old : ∀ {i x}, (s.H.set id (some (.frm g p N (push kt .l) b e))).get i = some x → ∃ y, s.H.get i = some y ∧ (x.mine = true → y.mine = true) := fun {i x} h => by
      rw [Al.get_set] at h
      split at h
      · rename_i q; subst q; cases h; exact ⟨_, hg, fun _ => rfl⟩
      · exact ⟨x, h, fun h => h⟩
    obtain ⟨y1, z1, z2⟩ := old h2
    obtain ⟨y2, z3, _⟩ := old h3
    exact hs.H.inj id1 id2 r o o' y1 y2 z1 (z2 hm) z3
theorem goC_push {s : SS (stdA fs ov)} {S : Rx.S} {K : Ex → SS (stdA fs ov) → Prop} {x : Option (Ex × Rx.S)} {kt : List (Nat × SV (stdA fs ov))} {kr : List (Nat × SO (stdA fs ov))} (h : GoC W ν (⟨push kt s.T, s.N, push kr s.H, s.nx, s.wr⟩ : SS (stdA fs ov)) S K x) : GoC W ν s S K x := GoC.know (s := s) (s' := ⟨push kt s.T, s.N, push kr s.H, s.nx, s.wr⟩) ⟨rfl, rfl⟩ h
end Go.Rx
