/-
  A symbolic run: the algebra of integers, truth values and lists; what its values and memory say of the run of closed code. No program.
-/
import Derived.Test.YtohpjhplofimjaaYa
import Derived.Test.YtohpjhplofimjaaZx
set_option linter.unusedSimpArgs false
set_option linter.unusedVariables false
set_option linter.unusedSectionVars false
namespace Go.Rx
open Go

theorem Al.force_eq {α β : Type} (t : Al α) (K : Al α → β) : t.force K = K t := rfl
theorem Al.get_l {α : Type} (j : Nat) : (Al.l : Al α).get j = none := rfl
theorem Al.get_set {α : Type} (t : Al α) (k j : Nat) (x : Option α) : (t.set k x).get j = if j = k then x else t.get j := by
  show (match Nat.beq j k with | true => x | false => t.get j) = _
  by_cases h : j = k
  · rw [(beq_iff _ _).2 h, if_pos h]
  · rw [(beq_false _ _).2 h, if_neg h]
theorem Al.get_set_same {α : Type} (t : Al α) (k : Nat) (x : Option α) : (t.set k x).get k = x := by rw [Al.get_set, if_pos rfl]
theorem Al.get_set_ne {α : Type} (t : Al α) {k j : Nat} (x : Option α) (h : j ≠ k) : (t.set k x).get j = t.get j := by rw [Al.get_set, if_neg h]
def InK : IntKind → Int → Prop
  | .i64, n => -9223372036854775808 ≤ n ∧ n ≤ 9223372036854775807
  | k, n => k.wrap n = n
theorem InK.wrap {k : IntKind} {n : Int} (h : InK k n) : k.wrap n = n := by
  cases k <;> first | exact h | exact wrap_small h.1 (by have := h.2; omega)
def bitsI (op : BinOp) (k : IntKind) (x y : Int) : Int := match op with
  | .and => k.wrap (BitVec.ofInt k.bits x &&& BitVec.ofInt k.bits y).toNat
  | .or => k.wrap (BitVec.ofInt k.bits x ||| BitVec.ofInt k.bits y).toNat
  | .xor => k.wrap (BitVec.ofInt k.bits x ^^^ BitVec.ofInt k.bits y).toNat
  | _ => k.wrap (BitVec.ofInt k.bits x &&& ~~~ BitVec.ofInt k.bits y).toNat
def notI (k : IntKind) (x : Int) : Int := bitsI .xor k (if k.signed then -1 else k.max) x
def shI (op : BinOp) (k : IntKind) (x y : Int) : Int := match op with
  | .shl => k.wrap (x * 2 ^ (min y.toNat k.bits))
  | _ => x.fdiv (2 ^ (min y.toNat k.bits))
def boolI (b : Bool) : Int := match b with | true => 1 | false => 0

/-! ### Lists of rows of integers -/
abbrev Ll := List (List Int)
def Ll.len (h : Ll) : Int := h.length
def Ll.get (h : Ll) (i : Int) (j : Nat) : Int := (h.getD i.toNat []).getD j 0
def Ll.getB (h : Ll) (i : Int) (j : Nat) : Bool := decide (h.get i j ≠ 0)
def Ll.set (h : Ll) (i : Int) (j : Nat) (v : Int) : Ll := List.set h i.toNat ((h.getD i.toNat []).set j v)
def cmpB (op : BinOp) (a b : Int) : Bool := match op with
  | .eql => decide (a = b)
  | .neq => decide (a ≠ b)
  | .lss => decide (a < b)
  | .leq => decide (a ≤ b)
  | .gtr => decide (a > b)
  | _ => decide (a ≥ b)
def cmpP (op : BinOp) (a b : Int) : Prop := match op with
  | .eql => a = b
  | .neq => a ≠ b
  | .lss => a < b
  | .leq => a ≤ b
  | .gtr => a > b
  | _ => a ≥ b
/-- Functions that are named by numbers. -/
structure Fs where
  i : Nat → List Ll → List Int → Int
  b : Nat → List Ll → List Int → Bool
  l : Nat → List Ll → List Int → Ll
def binI (ov : Bool) (op : BinOp) (k : IntKind) (a b : Int) (K : Int → Prop) : Prop := match op with
  | .add => (match ov with | true => InK k (a + b) ∧ K (a + b) | false => K (k.wrap (a + b)))
  | .sub => (match ov with | true => InK k (a - b) ∧ K (a - b) | false => K (k.wrap (a - b)))
  | .mul => (match ov with | true => InK k (a * b) ∧ K (a * b) | false => K (k.wrap (a * b)))
  | .quo => (match ov with | true => b ≠ 0 ∧ (InK k (a.tdiv b) ∧ K (a.tdiv b)) | false => b ≠ 0 ∧ K (k.wrap (a.tdiv b)))
  | .rem => b ≠ 0 ∧ K (a.tmod b)
  | .and => K (bitsI .and k a b)
  | .or => K (bitsI .or k a b)
  | .xor => K (bitsI .xor k a b)
  | .andNot => K (bitsI .andNot k a b)
  | _ => False
def unI (ov : Bool) (op : UnOp) (k : IntKind) (a : Int) (K : Int → Prop) : Prop := match op with
  | .neg => (match ov with | true => InK k (0 - a) ∧ K (0 - a) | false => K (k.wrap (0 - a)))
  | .xor => K (notI k a)
  | _ => False
abbrev stdA (fs : Fs) (ov : Bool) : Alg where
  I := Int
  B := Bool
  L := Ll
  R := Prop
  lit := fun n => n
  ofB := fun b => b
  bin := binI ov
  un := unI ov
  sh := fun op k a b K => 0 ≤ b ∧ K (shI op k a b)
  conv := fun k a K => match ov with | true => InK k a ∧ K a | false => K (k.wrap a)
  cmp := cmpB
  not := fun x => !x
  and := fun x y => x && y
  iff := fun x y => x == y
  min := minL
  max := maxL
  br := fun b x y => cond b (x ()) (y ())
  need := fun op a b r => cmpP op a b ∧ r
  fail := fun _ => False
  len := Ll.len
  get := Ll.get
  getB := Ll.getB
  set := Ll.set
  setB := fun h i j v => Ll.set h i j (boolI v)
  nil := []
  row := fun l => [l.map fun x => match x with | .inl n => n | .inr b => boolI b]
  cat := fun a b => a ++ b
  app := fs.i
  appB := fs.b
  appL := fs.l

/-! ### What symbolic values and memory say -/
abbrev Nm := Nat → Option (Nat × Nat)
variable {fs : Fs} {ov : Bool}
/-- A slice of n elements. -/
def LSr (x : Option (Nat × Nat)) (own : Bool) (n : Int) (v : LV) : Prop := 0 ≤ n ∧ ((v = .nils ∧ n = 0) ∨ ∃ r o, x = some (r, o) ∧ ((o = 0 ∧ v = .gs r 0 0 n.toNat) ∨ (own = false ∧ ∃ cap, n.toNat ≤ cap ∧ v = .sl r o n.toNat cap)))
mutual
def VS (ν : Nm) : SV (stdA fs ov) → LV → Prop
  | .b x, v => v = .b x
  | .i k n, v => v = .i k n
  | .s x, v => v = .s x
  | .nilp, v => v = .nilp
  | .p id off, v => ∃ r, ν id = some (r, 0) ∧ v = .p r off
  | .pe id z i j, v => ∃ r o, ν id = some (r, o) ∧ 0 ≤ i ∧ v = .p r (o + i.toNat * z + j)
  | .nils, v => v = .nils
  | .sl id off len cap, v => ∃ r, ν id = some (r, 0) ∧ v = .sl r off len cap
  | .ls own id n, v => LSr (ν id) own n v
  | .fn f a c, v => ∃ a' c', v = .fn (.func f) a' c' ∧ VSL ν a a' ∧ VSL ν c c'
  | .nilf, v => v = .nilf
  | .nili, v => v = .nili
  | .agg l, v => ∃ l', v = .agg l' ∧ VSL ν l l'
  | .tup l, v => ∃ l', v = .tup l' ∧ VSL ν l l'
def VSL (ν : Nm) : List (SV (stdA fs ov)) → List LV → Prop
  | [], vs => vs = []
  | x :: l, vs => ∃ y r, vs = y :: r ∧ VS ν x y ∧ VSL ν l r
end
/-- Names below a bound stay as they are. -/
def Lo (n : Nat) (ν ν' : Nm) : Prop := ∀ id, id < n → ν' id = ν id
def NLe (ν ν' : Nm) : Prop := ∀ id x, ν id = some x → ν' id = some x
def cellLV : CK → Int → LV
  | .int k, n => .i k n
  | .bool, n => .b (decide (n ≠ 0))
def cellsOK (lcs : List LV) (o : Nat) (ks : List CK) (h : Ll) : Prop := ∀ (i j : Nat) (k : CK), i < h.length → ks[j]? = some k → lcs[o + i * ks.length + j]? = some (cellLV k (h.get i j))
/-- What can be read of an object from an offset on. -/
def RD (lo : LO) (o : Nat) (ks : List CK) (h : Ll) : Prop := (∃ lcs, lo.cs = some lcs ∧ cellsOK lcs o ks h) ∨ ∃ base cs, lo = .ro base cs ∧ base ≤ o ∧ cellsOK cs (o - base) ks h
def OS (ν : Nm) (H : Hp) (id : Nat) : SO (stdA fs ov) → Prop
  | .row t cs => ∃ r lcs, ν id = some (r, 0) ∧ H.get r = some (.row t lcs) ∧ VSL ν cs lcs
  | .list t ks own h => (∀ x ∈ h, x.length = ks.length) ∧ (h.length = 0 ∨ ∃ r o lo, ν id = some (r, o) ∧ H.get r = some lo ∧ RD lo o ks h) ∧
      (own = true → ∀ r o, ν id = some (r, o) → o = 0 ∧ ∃ lcs, H.get r = some (.gro t ks.length lcs) ∧ lcs.length = h.length * ks.length ∧ cellsOK lcs 0 ks h)
structure HS (ν : Nm) (M : SH (stdA fs ov)) (snx : Nat) (H : Hp) (nx : Nat) : Prop where
  at_ : ∀ id so, M.get id = some so → id < snx ∧ OS ν H id so
  lt : ∀ id r o, ν id = some (r, o) → r < nx ∧ id < snx
  inj : ∀ id id' r o o' so, M.get id = some so → so.mine = true → ν id = some (r, o) → ν id' = some (r, o') → id = id'
structure FS (ν : Nm) (T : Al (SV (stdA fs ov))) (L : Tr LV) : Prop where
  at_ : ∀ t v, T.get t = some v → ∃ lv, L.get t = some lv ∧ VS ν v lv

mutual
theorem VS.mono {ν ν' : Nm} (h : NLe ν ν') : ∀ {x : SV (stdA fs ov)} {v : LV}, VS ν x v → VS ν' x v
  | .b _, _, hv => hv
  | .i _ _, _, hv => hv
  | .s _, _, hv => hv
  | .nilp, _, hv => hv
  | .p _ _, _, hv => by obtain ⟨r, h1, e⟩ := hv; exact ⟨r, h _ _ h1, e⟩
  | .pe _ _ _ _, _, hv => by obtain ⟨r, o, h1, h2, e⟩ := hv; exact ⟨r, o, h _ _ h1, h2, e⟩
  | .nils, _, hv => hv
  | .sl _ _ _ _, _, hv => by obtain ⟨r, h1, e⟩ := hv; exact ⟨r, h _ _ h1, e⟩
  | .ls _ _ _, _, hv => by
    obtain ⟨h0, hv⟩ := hv
    refine ⟨h0, hv.imp_right ?_⟩
    rintro ⟨r, o, h1, e⟩
    exact ⟨r, o, h _ _ h1, e⟩
  | .fn _ _ _, _, hv => by obtain ⟨a, c, e, h1, h2⟩ := hv; exact ⟨a, c, e, VSL.mono h h1, VSL.mono h h2⟩
  | .nilf, _, hv => hv
  | .nili, _, hv => hv
  | .agg _, _, hv => by obtain ⟨a, e, h1⟩ := hv; exact ⟨a, e, VSL.mono h h1⟩
  | .tup _, _, hv => by obtain ⟨a, e, h1⟩ := hv; exact ⟨a, e, VSL.mono h h1⟩
theorem VSL.mono {ν ν' : Nm} (h : NLe ν ν') : ∀ {l : List (SV (stdA fs ov))} {vs : List LV}, VSL ν l vs → VSL ν' l vs
  | [], _, hv => hv
  | _ :: _, _, hv => by obtain ⟨y, r, e, h1, h2⟩ := hv; exact ⟨y, r, e, VS.mono h h1, VSL.mono h h2⟩
end
variable {ν ν' : Nm}
theorem VSL.nil : VSL (fs := fs) (ov := ov) ν [] [] := rfl
theorem VSL.cons {x : SV (stdA fs ov)} {y : LV} {l : List (SV (stdA fs ov))} {vs : List LV} (h : VS ν x y) (h' : VSL ν l vs) : VSL ν (x :: l) (y :: vs) := ⟨y, vs, rfl, h, h'⟩
theorem VSL.length : ∀ {l : List (SV (stdA fs ov))} {vs : List LV}, VSL ν l vs → vs.length = l.length
  | [], _, h => by rw [h]; rfl
  | _ :: _, _, h => by obtain ⟨y, r, e, _, h2⟩ := h; rw [e]; simp [VSL.length h2]
theorem VSL.append : ∀ {l l' : List (SV (stdA fs ov))} {vs vs' : List LV}, VSL ν l vs → VSL ν l' vs' → VSL ν (l ++ l') (vs ++ vs')
  | [], _, _, _, h, h' => by rw [h]; exact h'
  | _ :: _, _, _, _, h, h' => by obtain ⟨y, r, e, h1, h2⟩ := h; rw [e]; exact ⟨y, _, rfl, h1, VSL.append h2 h'⟩
theorem VSL.get : ∀ {l : List (SV (stdA fs ov))} {vs : List LV} {k : Nat} {x : SV (stdA fs ov)}, VSL ν l vs → l[k]? = some x → ∃ v, vs[k]? = some v ∧ VS ν x v
  | [], _, _, _, _, hx => by simp at hx
  | _ :: _, _, 0, _, h, hx => by obtain ⟨y, r, e, h1, _⟩ := h; simp at hx; subst hx; exact ⟨y, by rw [e]; rfl, h1⟩
  | _ :: l, _, k + 1, x, h, hx => by
    obtain ⟨y, r, e, _, h2⟩ := h
    obtain ⟨v, hv, hr⟩ := VSL.get (k := k) h2 (by simpa using hx)
    exact ⟨v, by rw [e]; simpa using hv, hr⟩
theorem VSL.drop : ∀ {l : List (SV (stdA fs ov))} {vs : List LV} (k : Nat), VSL ν l vs → VSL ν (l.drop k) (vs.drop k)
  | _, _, 0, h => by simpa using h
  | [], _, _ + 1, h => by rw [h]; simp [VSL]
  | _ :: _, _, k + 1, h => by obtain ⟨y, r, e, _, h2⟩ := h; rw [e]; simpa using VSL.drop k h2
theorem VSL.tk : ∀ {n : Nat} {l r : List (SV (stdA fs ov))} {vs : List LV}, gtk n l = some r → VSL ν l vs → ∃ rs, Rx.tk n vs = some rs ∧ VSL ν r rs
  | 0, l, r, vs, h, _ => by simp [gtk] at h; subst h; exact ⟨[], by simp [Rx.tk], rfl⟩
  | n + 1, [], r, vs, h, _ => by simp [gtk] at h
  | n + 1, x :: l, r, vs, h, hv => by
    obtain ⟨y, u, e, h1, h2⟩ := hv
    simp only [gtk] at h
    cases hr : gtk n l with
    | none => simp [hr] at h
    | some m =>
      simp [hr] at h; subst h
      obtain ⟨rs, h3, h4⟩ := VSL.tk hr h2
      exact ⟨y :: rs, by rw [e]; simp [Rx.tk, h3], VSL.cons h1 h4⟩
theorem VSL.pt : ∀ {k : Nat} {l ys r : List (SV (stdA fs ov))} {vs us : List LV}, gpt k l ys = some r → VSL ν l vs → VSL ν ys us → ∃ rs, Rx.pt k vs us = some rs ∧ VSL ν r rs
  | 0, l, [], r, vs, us, h, hv, hu => by simp [gpt] at h; subst h; rw [hu]; exact ⟨vs, by cases vs <;> simp [Rx.pt], hv⟩
  | 0, [], _ :: _, r, vs, us, h, hv, hu => by simp [gpt] at h
  | 0, x :: l, y :: ys, r, vs, us, h, hv, hu => by
    simp only [gpt] at h
    cases hr : gpt 0 l ys with
    | none => simp [hr] at h
    | some m =>
      simp [hr] at h; subst h
      obtain ⟨v, vs', rfl, h1, h2⟩ := hv
      obtain ⟨u, us', rfl, h3, h4⟩ := hu
      obtain ⟨rs, h5, h6⟩ := VSL.pt hr h2 h4
      exact ⟨u :: rs, by simp [Rx.pt, h5], VSL.cons h3 h6⟩
  | k + 1, [], ys, r, vs, us, h, hv, hu => by simp [gpt] at h
  | k + 1, x :: l, ys, r, vs, us, h, hv, hu => by
    simp only [gpt] at h
    cases hr : gpt k l ys with
    | none => simp [hr] at h
    | some m =>
      simp [hr] at h; subst h
      obtain ⟨v, vs', rfl, h1, h2⟩ := hv
      obtain ⟨rs, h5, h6⟩ := VSL.pt hr h2 hu
      exact ⟨v :: rs, by simp [Rx.pt, h5], VSL.cons h1 h6⟩
theorem VS.cells {x : SV (stdA fs ov)} {v : LV} (h : VS ν x v) : VSL ν x.cells v.cells := by
  cases x with
  | agg l => obtain ⟨a, rfl, hl⟩ := h; exact hl
  | tup l => obtain ⟨a, rfl, hl⟩ := h; exact VSL.cons ⟨a, rfl, hl⟩ VSL.nil
  | fn f a c => obtain ⟨a', c', rfl, h1, h2⟩ := h; exact VSL.cons ⟨a', c', rfl, h1, h2⟩ VSL.nil
  | p id off => obtain ⟨r, h1, rfl⟩ := h; exact VSL.cons ⟨r, h1, rfl⟩ VSL.nil
  | pe id z i j => obtain ⟨r, o, h1, h2, rfl⟩ := h; exact VSL.cons ⟨r, o, h1, h2, rfl⟩ VSL.nil
  | sl id off len cap => obtain ⟨r, h1, rfl⟩ := h; exact VSL.cons ⟨r, h1, rfl⟩ VSL.nil
  | ls own id n =>
    have h' := h
    obtain ⟨h0, ⟨rfl, _⟩ | ⟨r, o, _, ⟨_, rfl⟩ | ⟨_, c, _, rfl⟩⟩⟩ := h'
    · exact VSL.cons h VSL.nil
    · exact VSL.cons h VSL.nil
    · exact VSL.cons h VSL.nil
  | _ => subst h; exact VSL.cons rfl VSL.nil
end Go.Rx
