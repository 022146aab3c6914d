/-
  A run of closed code, by the kernel: values whose addresses are names of blocks (numbers), memory as a table of names, and what it means that a world is such a memory. No program.
-/
import Derived.CallsIn
import Derived.LoopNIn
import Derived.RangeFuncLeaves
import Derived.RangeFuncRecord
import Derived.RangeFuncCalls
set_option linter.unusedSimpArgs false
set_option linter.unusedVariables false
set_option linter.unusedSectionVars false
namespace Go.Rx
open Go

/-! ### Tables -/
inductive Tr (α : Type) where
  | l
  | n (v : Option α) (a b : Tr α)
  deriving Inhabited

variable {α β : Type}
noncomputable section
/-- By the recursors themselves: the kernel's steps are counted. -/
def Tr.force (t : Tr α) (K : Tr α → β) : β := Tr.rec (motive := fun _ => β) (K .l) (fun v a b _ _ => K (.n v a b)) t
theorem Tr.force_eq (t : Tr α) (K : Tr α → β) : t.force K = K t := by cases t <;> rfl
def Tr.get (t : Tr α) : Nat → Option α := Tr.rec (motive := fun _ => Nat → Option α) (fun _ => none)
  (fun v _ _ ga gb k => Bool.rec (motive := fun _ => Option α) (Bool.rec (motive := fun _ => Option α) (gb (Nat.sub (Nat.div k 2) 1)) (ga (Nat.div k 2)) (Nat.beq (Nat.mod k 2) 1)) v (Nat.beq k 0)) t
def Tr.path (x : Option α) (f : Nat) : Nat → Tr α := Nat.rec (motive := fun _ => Nat → Tr α) (fun _ => .l)
  (fun _ ih k => Bool.rec (motive := fun _ => Tr α) (Bool.rec (motive := fun _ => Tr α) ((ih (Nat.sub (Nat.div k 2) 1)).force fun b => .n none .l b) ((ih (Nat.div k 2)).force fun a => .n none a .l) (Nat.beq (Nat.mod k 2) 1)) (.n x .l .l) (Nat.beq k 0)) f
def Tr.set (t : Tr α) : Nat → Option α → Tr α := Tr.rec (motive := fun _ => Nat → Option α → Tr α) (fun k x => Tr.path x (Nat.succ k) k)
  (fun v a b sa sb k x => Bool.rec (motive := fun _ => Tr α) (Bool.rec (motive := fun _ => Tr α) ((sb (Nat.sub (Nat.div k 2) 1) x).force fun b' => .n v a b') ((sa (Nat.div k 2) x).force fun a' => .n v a' b) (Nat.beq (Nat.mod k 2) 1)) (.n x a b) (Nat.beq k 0)) t
end

theorem beq_iff (a b : Nat) : Nat.beq a b = true ↔ a = b := by
  constructor
  · exact Nat.eq_of_beq_eq_true
  · rintro rfl; exact Nat.beq_refl a
theorem beq_false (a b : Nat) : Nat.beq a b = false ↔ a ≠ b := by
  rw [← Bool.not_eq_true, beq_iff]
theorem Tr.get_l (k : Nat) : (Tr.l : Tr α).get k = none := rfl
theorem Tr.get_n (v : Option α) (a b : Tr α) (k : Nat) : (Tr.n v a b).get k = if k = 0 then v else if k % 2 = 1 then a.get (k / 2) else b.get (k / 2 - 1) := by
  show Bool.rec (motive := fun _ => Option α) (Bool.rec (motive := fun _ => Option α) (b.get (k / 2 - 1)) (a.get (k / 2)) (Nat.beq (k % 2) 1)) v (Nat.beq k 0) = _
  by_cases h0 : k = 0
  · rw [if_pos h0, (beq_iff _ _).2 h0]
  · rw [if_neg h0, (beq_false _ _).2 h0]
    by_cases h1 : k % 2 = 1
    · rw [if_pos h1, (beq_iff _ _).2 h1]
    · rw [if_neg h1, (beq_false _ _).2 h1]
theorem Tr.set_n (v : Option α) (a b : Tr α) (k : Nat) (x : Option α) : (Tr.n v a b).set k x = if k = 0 then .n x a b else if k % 2 = 1 then .n v (a.set (k / 2) x) b else .n v a (b.set (k / 2 - 1) x) := by
  show Bool.rec (motive := fun _ => Tr α) (Bool.rec (motive := fun _ => Tr α) ((b.set (k / 2 - 1) x).force fun b' => .n v a b') ((a.set (k / 2) x).force fun a' => .n v a' b) (Nat.beq (k % 2) 1)) (.n x a b) (Nat.beq k 0) = _
  by_cases h0 : k = 0
  · rw [if_pos h0, (beq_iff _ _).2 h0]
  · rw [if_neg h0, (beq_false _ _).2 h0]
    by_cases h1 : k % 2 = 1
    · rw [if_pos h1, (beq_iff _ _).2 h1]; exact Tr.force_eq _ _
    · rw [if_neg h1, (beq_false _ _).2 h1]; exact Tr.force_eq _ _
theorem Tr.path_succ (x : Option α) (f k : Nat) : Tr.path x (f + 1) k = if k = 0 then .n x .l .l else if k % 2 = 1 then .n none (Tr.path x f (k / 2)) .l else .n none .l (Tr.path x f (k / 2 - 1)) := by
  show Bool.rec (motive := fun _ => Tr α) (Bool.rec (motive := fun _ => Tr α) ((Tr.path x f (k / 2 - 1)).force fun b => .n none .l b) ((Tr.path x f (k / 2)).force fun a => .n none a .l) (Nat.beq (k % 2) 1)) (.n x .l .l) (Nat.beq k 0) = _
  by_cases h0 : k = 0
  · rw [if_pos h0, (beq_iff _ _).2 h0]
  · rw [if_neg h0, (beq_false _ _).2 h0]
    by_cases h1 : k % 2 = 1
    · rw [if_pos h1, (beq_iff _ _).2 h1]; exact Tr.force_eq _ _
    · rw [if_neg h1, (beq_false _ _).2 h1]; exact Tr.force_eq _ _
theorem Tr.get_path (x : Option α) : ∀ (f k j : Nat), k < f → (Tr.path x f k).get j = if j = k then x else none
  | 0, _, _, h => absurd h (Nat.not_lt_zero _)
  | f + 1, k, j, h => by
    rw [Tr.path_succ]
    by_cases h0 : k = 0
    · rw [if_pos h0, Tr.get_n]
      by_cases hj : j = 0
      · rw [if_pos hj, if_pos (by omega)]
      · have : j ≠ k := by omega
        simp [hj, this, Tr.get_l]
    · rw [if_neg h0]
      by_cases h1 : k % 2 = 1
      · rw [if_pos h1, Tr.get_n, Tr.get_path x f (k / 2) _ (by omega)]
        by_cases hj : j = 0
        · rw [if_pos hj, if_neg (by omega)]
        · rw [if_neg hj]
          by_cases hj1 : j % 2 = 1
          · rw [if_pos hj1]; have : (j / 2 = k / 2) ↔ j = k := by omega
            simp only [this]
          · rw [if_neg hj1, if_neg (by omega)]; rfl
      · rw [if_neg h1, Tr.get_n, Tr.get_path x f (k / 2 - 1) _ (by omega)]
        by_cases hj : j = 0
        · rw [if_pos hj, if_neg (by omega)]
        · rw [if_neg hj]
          by_cases hj1 : j % 2 = 1
          · rw [if_pos hj1, if_neg (by omega)]; rfl
          · rw [if_neg hj1]; have : (j / 2 - 1 = k / 2 - 1) ↔ j = k := by omega
            simp only [this]
theorem Tr.get_set : ∀ (t : Tr α) (k j : Nat) (x : Option α), (t.set k x).get j = if j = k then x else t.get j
  | .l, k, j, x => by
    show (Tr.path x (k + 1) k).get j = _
    rw [Tr.get_path x _ _ _ (Nat.lt_succ_self k)]; rfl
  | .n v a b, k, j, x => by
    rw [Tr.set_n]
    by_cases h0 : k = 0
    · rw [if_pos h0, Tr.get_n, Tr.get_n]
      by_cases hj : j = 0
      · rw [if_pos hj, if_pos (by omega)]
      · have : j ≠ k := by omega
        simp [hj, this]
    · rw [if_neg h0]
      by_cases h1 : k % 2 = 1
      · rw [if_pos h1, Tr.get_n, Tr.get_n, Tr.get_set a]
        by_cases hj : j = 0
        · rw [if_pos hj, if_pos hj, if_neg (by omega)]
        · rw [if_neg hj, if_neg hj]
          by_cases hj1 : j % 2 = 1
          · rw [if_pos hj1, if_pos hj1]; have : (j / 2 = k / 2) ↔ j = k := by omega
            simp only [this]
          · rw [if_neg hj1, if_neg hj1, if_neg (by omega)]
      · rw [if_neg h1, Tr.get_n, Tr.get_n, Tr.get_set b]
        by_cases hj : j = 0
        · rw [if_pos hj, if_pos hj, if_neg (by omega)]
        · rw [if_neg hj, if_neg hj]
          by_cases hj1 : j % 2 = 1
          · rw [if_pos hj1, if_pos hj1, if_neg (by omega)]
          · rw [if_neg hj1, if_neg hj1]; have : (j / 2 - 1 = k / 2 - 1) ↔ j = k := by omega
            simp only [this]
theorem Tr.get_set_same (t : Tr α) (k : Nat) (x : Option α) : (t.set k x).get k = x := by rw [Tr.get_set, if_pos rfl]
theorem Tr.get_set_ne (t : Tr α) {k j : Nat} (x : Option α) (h : j ≠ k) : (t.set k x).get j = t.get j := by rw [Tr.get_set, if_neg h]

/-! ### Values -/
inductive LV where
  | b (x : Bool)
  | i (k : IntKind) (n : Int)
  | s (x : ByteArray)
  | nilp
  | p (id off : Nat)
  | nils
  | sl (id off len cap : Nat)
  | gs (id off el len : Nat)
  | fn (f : Fn) (first cap : List LV)
  | yld (id : Nat)
  | nilf
  | nilm
  | mp (id : Nat)
  | ifc (t : TypeId) (v : LV)
  | nili
  | agg (l : List LV)
  | tup (l : List LV)
  deriving Inhabited

/-- Which block a name stands for, and that block's capacity where it may grow. -/
abbrev Ren := Nat → Option (Nat × Nat)

mutual
def VR (R : Ren) : LV → Value → Prop
  | .b x, v => v = .bool x
  | .i k n, v => v = .int k n
  | .s x, v => v = .string x
  | .nilp, v => v = .pointer none
  | .p id off, v => ∃ b c, R id = some (b, c) ∧ v = .pointer (some ⟨b, off, none⟩)
  | .nils, v => v = .slice none 0 0
  | .sl id off len cap, v => ∃ b c, R id = some (b, c) ∧ v = .slice (some ⟨b, off, none⟩) len cap
  | .gs id off el len, v => ∃ b c, R id = some (b, c) ∧ el + len ≤ c ∧ v = .slice (some ⟨b, off, none⟩) len (c - el)
  | .fn f a c, v => ∃ a' c', v = .func f a' c' ∧ VRL R a a'.toList ∧ VRL R c c'.toList
  | .yld id, v => ∃ b c, R id = some (b, c) ∧ v = .func (.yield b) #[] #[]
  | .nilf, v => v = .nilFunc
  | .nilm, v => v = .map none
  | .mp id, v => ∃ b c, R id = some (b, c) ∧ v = .map (some b)
  | .ifc t x, v => ∃ y, v = .iface t y ∧ VR R x y
  | .nili, v => v = .nilIface
  | .agg l, v => ∃ a, v = .agg a ∧ VRL R l a.toList
  | .tup l, v => ∃ a, v = .tuple a ∧ VRL R l a.toList
def VRL (R : Ren) : List LV → List Value → Prop
  | [], vs => vs = []
  | x :: l, vs => ∃ y r, vs = y :: r ∧ VR R x y ∧ VRL R l r
end

/-- All names that are known stay known. -/
def Le (R R' : Ren) : Prop := ∀ id x, R id = some x → R' id = some x
theorem Le.refl (R : Ren) : Le R R := fun _ _ h => h
theorem Le.trans {R R' R'' : Ren} (h : Le R R') (h' : Le R' R'') : Le R R'' := fun id x hx => h' id x (h id x hx)

mutual
theorem VR.mono {R R' : Ren} (h : Le R R') : ∀ {lv : LV} {v : Value}, VR R lv v → VR R' lv v
  | .b _, _, hv => hv
  | .i _ _, _, hv => hv
  | .s _, _, hv => hv
  | .nilp, _, hv => hv
  | .p _ _, _, hv => by obtain ⟨b, c, hr, e⟩ := hv; exact ⟨b, c, h _ _ hr, e⟩
  | .nils, _, hv => hv
  | .sl _ _ _ _, _, hv => by obtain ⟨b, c, hr, e⟩ := hv; exact ⟨b, c, h _ _ hr, e⟩
  | .gs _ _ _ _, _, hv => by obtain ⟨b, c, hr, e⟩ := hv; exact ⟨b, c, h _ _ hr, e⟩
  | .fn _ _ _, _, hv => by obtain ⟨a, c, e, h1, h2⟩ := hv; exact ⟨a, c, e, VRL.mono h h1, VRL.mono h h2⟩
  | .yld _, _, hv => by obtain ⟨b, c, hr, e⟩ := hv; exact ⟨b, c, h _ _ hr, e⟩
  | .nilf, _, hv => hv
  | .nilm, _, hv => hv
  | .mp _, _, hv => by obtain ⟨b, c, hr, e⟩ := hv; exact ⟨b, c, h _ _ hr, e⟩
  | .ifc _ _, _, hv => by obtain ⟨y, e, h1⟩ := hv; exact ⟨y, e, VR.mono h h1⟩
  | .nili, _, hv => hv
  | .agg _, _, hv => by obtain ⟨a, e, h1⟩ := hv; exact ⟨a, e, VRL.mono h h1⟩
  | .tup _, _, hv => by obtain ⟨a, e, h1⟩ := hv; exact ⟨a, e, VRL.mono h h1⟩
theorem VRL.mono {R R' : Ren} (h : Le R R') : ∀ {l : List LV} {vs : List Value}, VRL R l vs → VRL R' l vs
  | [], _, hv => hv
  | _ :: _, _, hv => by obtain ⟨y, r, e, h1, h2⟩ := hv; exact ⟨y, r, e, VR.mono h h1, VRL.mono h h2⟩
end
theorem VRL.nil {R : Ren} : VRL R [] [] := rfl
theorem VRL.cons {R : Ren} {x : LV} {y : Value} {l : List LV} {vs : List Value} (h : VR R x y) (h' : VRL R l vs) : VRL R (x :: l) (y :: vs) := ⟨y, vs, rfl, h, h'⟩
theorem VRL.length {R : Ren} : ∀ {l : List LV} {vs : List Value}, VRL R l vs → vs.length = l.length
  | [], _, h => by rw [h]; rfl
  | _ :: _, _, h => by obtain ⟨y, r, e, _, h2⟩ := h; rw [e]; simp [VRL.length h2]
theorem VRL.append {R : Ren} : ∀ {l l' : List LV} {vs vs' : List Value}, VRL R l vs → VRL R l' vs' → VRL R (l ++ l') (vs ++ vs')
  | [], _, _, _, h, h' => by rw [h]; exact h'
  | _ :: _, _, _, _, h, h' => by obtain ⟨y, r, e, h1, h2⟩ := h; rw [e]; exact ⟨y, _, rfl, h1, VRL.append h2 h'⟩
theorem VRL.get {R : Ren} : ∀ {l : List LV} {vs : List Value} {k : Nat} {x : LV}, VRL R l vs → l[k]? = some x → ∃ v, vs[k]? = some v ∧ VR R x v
  | [], _, _, _, _, hx => by simp at hx
  | _ :: _, _, 0, _, h, hx => by obtain ⟨y, r, e, h1, _⟩ := h; simp at hx; subst hx; exact ⟨y, by rw [e]; rfl, h1⟩
  | _ :: l, _, k + 1, x, h, hx => by
    obtain ⟨y, r, e, _, h2⟩ := h
    obtain ⟨v, hv, hr⟩ := VRL.get (k := k) h2 (by simpa using hx)
    exact ⟨v, by rw [e]; simpa using hv, hr⟩
theorem VRL.drop {R : Ren} : ∀ {l : List LV} {vs : List Value} (k : Nat), VRL R l vs → VRL R (l.drop k) (vs.drop k)
  | _, _, 0, h => by simpa using h
  | [], _, _ + 1, h => by rw [h]; simp [VRL]
  | _ :: _, _, k + 1, h => by obtain ⟨y, r, e, _, h2⟩ := h; rw [e]; simpa using VRL.drop k h2
theorem VRL.take {R : Ren} : ∀ {l : List LV} {vs : List Value} (k : Nat), VRL R l vs → VRL R (l.take k) (vs.take k)
  | _, _, 0, h => by simp [VRL]
  | [], _, _ + 1, h => by rw [h]; simp [VRL]
  | _ :: _, _, k + 1, h => by obtain ⟨y, r, e, h1, h2⟩ := h; rw [e]; exact ⟨y, _, rfl, h1, VRL.take k h2⟩
theorem VRL.set {R : Ren} {x : LV} {y : Value} (hx : VR R x y) : ∀ {l : List LV} {vs : List Value} (k : Nat), VRL R l vs → VRL R (l.set k x) (vs.set k y)
  | [], _, _, h => by rw [h]; simp [VRL]
  | _ :: _, _, 0, h => by obtain ⟨z, r, e, _, h2⟩ := h; rw [e]; exact ⟨y, r, rfl, hx, h2⟩
  | _ :: _, _, k + 1, h => by obtain ⟨z, r, e, h1, h2⟩ := h; rw [e]; exact ⟨z, _, rfl, h1, VRL.set hx k h2⟩
theorem VRL.replicate {R : Ren} {x : LV} {y : Value} (hx : VR R x y) : ∀ (k : Nat), VRL R (List.replicate k x) (List.replicate k y)
  | 0 => rfl
  | k + 1 => ⟨y, _, rfl, hx, VRL.replicate hx k⟩
end Go.Rx
