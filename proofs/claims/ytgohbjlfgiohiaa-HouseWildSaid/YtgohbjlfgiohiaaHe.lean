/- Safe states: what they are, and what Safe's loops hold. -/
import Derived.Test.YtgohbjlfgiohiaaHc
namespace Go.Proofs.Ytgohbjlfgiohiaa
open Go.RowKit

/-- What holds of states from which losses are avoided. -/
def Post (n : Nat) (lost : Nat → Bool) (len : Nat → Nat) (mv : Nat → Nat → Int) (t : Nat → Bool) : Prop := ∀ i, i < n → t i = true → lost i = false ∧ ∃ q, q < len i ∧ t (mv i q).toNat = true
/-- The safe states: the greatest set of this kind. -/
structure IsSafe (n : Nat) (lost : Nat → Bool) (len : Nat → Nat) (mv : Nat → Nat → Int) (s : Nat → Bool) : Prop where
  post : Post n lost len mv s
  big : ∀ t, Post n lost len mv t → ∀ i, i < n → t i = true → s i = true
def updB (s : Nat → Bool) (i : Nat) (x : Bool) : Nat → Bool := fun j => if j = i then x else s j
theorem updB_same (s : Nat → Bool) (i : Nat) (x : Bool) : updB s i x i = x := by simp [updB]
theorem updB_other (s : Nat → Bool) {i j : Nat} (x : Bool) (h : j ≠ i) : updB s i x j = s j := by simp [updB, h]
/-- How many of the first n are. -/
def cnt : Nat → (Nat → Bool) → Nat
  | 0, _ => 0
  | n + 1, s => cnt n s + if s n then 1 else 0
theorem cnt_le (s : Nat → Bool) : ∀ n, cnt n s ≤ n
  | 0 => Nat.le_refl _
  | n + 1 => by have := cnt_le s n; unfold cnt; split <;> omega
theorem cnt_far (s : Nat → Bool) (i : Nat) (x : Bool) : ∀ n, n ≤ i → cnt n (updB s i x) = cnt n s
  | 0, _ => rfl
  | n + 1, h => by unfold cnt; rw [cnt_far s i x n (by omega), updB_other _ _ (by omega)]
theorem cnt_upd (s : Nat → Bool) (i : Nat) (hs : s i = true) : ∀ n, i < n → cnt n (updB s i false) + 1 = cnt n s
  | 0, h => absurd h (by omega)
  | n + 1, h => by
    unfold cnt
    by_cases e : i = n
    · subst e
      rw [cnt_far s i false i (Nat.le_refl _), updB_same, hs]
      simp
    · have := cnt_upd s i hs n (by omega)
      rw [updB_other _ _ (by omega)]
      omega
theorem cnt_pos (s : Nat → Bool) (i : Nat) (hs : s i = true) (n : Nat) (h : i < n) : 1 ≤ cnt n s := by
  have := cnt_upd s i hs n h
  omega

/-- What Safe's loops hold: the boxes, and the list of bools so far. -/
structure Sst (w : World) (bb sb ab lb lo mb mo n lc mc : Nat) (s : Nat → Bool) (x : World) : Prop where
  old : Below w.heap.size w x
  c0 : x.cell? ⟨bb, 0, none⟩ = some (.slice (some ⟨lb, lo, none⟩) n lc)
  c1 : x.cell? ⟨bb, 1, none⟩ = some (.slice (some ⟨mb, mo, none⟩) n mc)
  sc : x.cell? ⟨sb, 0, none⟩ = some (.slice (some ⟨ab, 0, none⟩) n n)
  row : ∀ i, i < n → x.cell? ⟨ab, i, none⟩ = some (.bool (s i))
  fz : ∀ i, i < n → x.frozen? ⟨ab, i, none⟩ = false
theorem Sst.next {w : World} {bb sb ab lb lo mb mo n lc mc : Nat} {s : Nat → Bool} {x y : World} (h : Sst w bb sb ab lb lo mb mo n lc mc s x) (k : Below x.heap.size x y) : Sst w bb sb ab lb lo mb mo n lc mc s y :=
  ⟨below_next h.old k, (k.cell (p := ⟨_, _, _⟩) (lt_of_cell h.c0)).trans h.c0, (k.cell (p := ⟨_, _, _⟩) (lt_of_cell h.c1)).trans h.c1, (k.cell (p := ⟨_, _, _⟩) (lt_of_cell h.sc)).trans h.sc,
   fun i hi => (k.cell (p := ⟨_, _, _⟩) (lt_of_cell (h.row i hi))).trans (h.row i hi), fun i hi => (k.frozen (p := ⟨_, _, _⟩) (lt_of_cell (h.row i hi))).trans (h.fz i hi)⟩
theorem Sst.set {w : World} {bb sb ab lb lo mb mo n lc mc : Nat} {s : Nat → Bool} {x : World} (h : Sst w bb sb ab lb lo mb mo n lc mc s x) {i : Nat} (hi : i < n) (v : Bool) (h1 : bb ≠ ab) (h2 : sb ≠ ab) (h3 : w.heap.size ≤ ab) :
    Sst w bb sb ab lb lo mb mo n lc mc (updB s i v) (x.setCell ⟨ab, i, none⟩ (.bool v)) := by
  refine ⟨h.old.setCell h3 _, ?_, ?_, ?_, fun j hj => ?_, fun j hj => ?_⟩
  · rw [World.cell?_setCell_other (h := fun e => h1 (by cases e; rfl))]; exact h.c0
  · rw [World.cell?_setCell_other (h := fun e => h1 (by cases e; rfl))]; exact h.c1
  · rw [World.cell?_setCell_other (h := fun e => h2 (by cases e; rfl))]; exact h.sc
  · by_cases e : j = i
    · subst e
      rw [updB_same]
      exact World.cell?_setCell_same _ _ _ (h.row j hj)
    · rw [updB_other _ _ e, World.cell?_setCell_other (h := fun e' => e (by cases e'; rfl))]
      exact h.row j hj
  · simpa using h.fz j hj
/-- Safe's answer: a new list. -/
def SafeOut (w : World) (n : Nat) (lost : Nat → Bool) (len : Nat → Nat) (mv : Nat → Nat → Int) (e : Ending) (w' : World) : Prop :=
  ∃ (a : Nat) (s : Nat → Bool), e = .returned (.slice (some ⟨a, 0, none⟩) n n) ∧ (∀ i, i < n → w'.cell? ⟨a, i, none⟩ = some (.bool (s i))) ∧ w.heap.size ≤ a ∧ Below w.heap.size w w' ∧ IsSafe n lost len mv s
set_option maxHeartbeats 400000 in
theorem safe1_int (sb ab n nc : Nat) (s : Nat → Bool) (x : Int) (h0 : 0 ≤ x) (h1 : x < n) (w : World) (c : w.cell? ⟨sb, 0, none⟩ = some (.slice (some ⟨ab, 0, none⟩) n nc)) (hr : ∀ i, i < n → w.cell? ⟨ab, i, none⟩ = some (.bool (s i))) :
    Calls Try.prog 30 #[.int .i64 x, .pointer (some ⟨sb, 0, none⟩)] w fun e w' => e = .returned (.bool (s x.toNat)) ∧ Below w.heap.size w w' := by
  have h := safe1_any sb ab n nc s x.toNat (by omega) w c (hr _ (by omega))
  rw [show ((x.toNat : Nat) : Int) = x by omega] at h
  exact h
set_option maxHeartbeats 400000 in
theorem way1_int (sb ab n nc : Nat) (s : Nat → Bool) (x : Int) (h0 : 0 ≤ x) (h1 : x < n) (w : World) (c : w.cell? ⟨sb, 0, none⟩ = some (.slice (some ⟨ab, 0, none⟩) n nc)) (hr : ∀ i, i < n → w.cell? ⟨ab, i, none⟩ = some (.bool (s i))) :
    Calls Try.prog 35 #[.int .i64 x, .pointer (some ⟨sb, 0, none⟩)] w fun e w' => e = .returned (.bool (s x.toNat)) ∧ Below w.heap.size w w' := by
  have h := way1_any sb ab n nc s x.toNat (by omega) w c (hr _ (by omega))
  rw [show ((x.toNat : Nat) : Int) = x by omega] at h
  exact h
end Go.Proofs.Ytgohbjlfgiohiaa
