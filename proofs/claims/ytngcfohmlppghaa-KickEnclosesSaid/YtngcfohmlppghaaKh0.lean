/- The first cells of a block. -/
import Derived.Test.YtngcfohmlppghaaKe
namespace Go.Proofs.Ytngcfohmlppghaa
open Go.RowKit

/-- The first n cells of a block, and what a store does to them. -/
def RowN (w : World) (b n : Nat) (N : Nat → Int) : Prop := ∀ j, j < n → w.cell? ⟨b, j, none⟩ = some (.int .i64 (N j))
theorem RowN.set {w : World} {b n : Nat} {N : Nat → Int} (h : RowN w b n N) {i : Nat} (hi : i < n) (x : Int) : RowN (w.setCell ⟨b, i, none⟩ (.int .i64 x)) b n (upd N i x) := fun j hj => by
  by_cases e : j = i
  · subst e
    rw [upd_same]
    exact World.cell?_setCell_same _ _ _ (h j hj)
  · rw [upd_other _ _ e, World.cell?_setCell_other (h := fun e' => e (by cases e'; rfl))]
    exact h j hj
theorem RowN.far {w : World} {b n : Nat} {N : Nat → Int} (h : RowN w b n N) {b' i : Nat} (hb : b ≠ b') (v : Value) : RowN (w.setCell ⟨b', i, none⟩ v) b n N := fun j hj => by
  rw [World.cell?_setCell_other (h := fun e' => hb (by cases e'; rfl))]
  exact h j hj
theorem RowN.drew {w : World} {b n : Nat} {N : Nat → Int} (h : RowN w b n N) : RowN w.drew b n N := h
/-- A cell above the row may be said to hold anything. -/
theorem RowN.above {w : World} {b n : Nat} {N : Nat → Int} (h : RowN w b n N) {i : Nat} (hi : n ≤ i) (x : Int) : RowN w b n (upd N i x) := fun j hj => by
  rw [upd_other _ _ (by omega)]
  exact h j hj
end Go.Proofs.Ytngcfohmlppghaa
