/- A blow-out that is being made, while its lists have grown and its box has not yet been told. -/
import Derived.Test.YtgohbjlfgiohiaaHg
namespace Go.Proofs.Ytgohbjlfgiohiaa
open Go.RowKit

/-- The box still holds u1 and u2. -/
structure BldA (w0 : World) (bb : Nat) (u1 u2 : Value) (i j : Nat) (lost : Nat → Bool) (P C len : Nat → Nat) (mv : Nat → Nat → Int) (v1 v2 : Value) (w : World) : Prop where
  old : Below w0.heap.size w0 w
  le : w0.heap.size ≤ bb
  c0 : w.cell? ⟨bb, 0, none⟩ = some u1
  c1 : w.cell? ⟨bb, 1, none⟩ = some u2
  f0 : w.frozen? ⟨bb, 0, none⟩ = false
  f1 : w.frozen? ⟨bb, 1, none⟩ = false
  o1 : w.ownsRow (bb + 1) 4 1 v1 i ((List.range i).map fun k => .bool (lost k))
  o2 : w.ownsRow (bb + 1) 26 1 v2 j ((List.range j).map fun k => .slice (some ⟨P k, 0, none⟩) (len k) (C k))
  rows : ∀ k, k < j → bb < P k ∧ ∃ cs, w.heap[P k]? = some (.cells cs 3 (0, 0)) ∧ ∀ q, q < len k → cs[q]? = some (.int .i64 (mv k q))
section
variable {w0 : World} {bb i j : Nat} {u1 u2 : Value} {lost : Nat → Bool} {P C len : Nat → Nat} {mv : Nat → Nat → Int} {v1 v2 : Value} {w : World}
theorem BldA.of (h : Bld w0 bb i j lost P C len mv v1 v2 w) : BldA w0 bb v1 v2 i j lost P C len mv v1 v2 w := ⟨h.old, h.le, h.c0, h.c1, h.f0, h.f1, h.o1, h.o2, h.rows⟩
theorem BldA.lt (h : BldA w0 bb u1 u2 i j lost P C len mv v1 v2 w) : bb < w.heap.size := lt_of_cell h.c0
theorem BldA.below {w' : World} (h : BldA w0 bb u1 u2 i j lost P C len mv v1 v2 w) (k : Below w.heap.size w w') : BldA w0 bb u1 u2 i j lost P C len mv v1 v2 w' :=
  ⟨below_next h.old k, h.le, (k.cell (p := ⟨_, _, _⟩) h.lt).trans h.c0, (k.cell (p := ⟨_, _, _⟩) h.lt).trans h.c1, (k.frozen (p := ⟨_, _, _⟩) h.lt).trans h.f0, (k.frozen (p := ⟨_, _, _⟩) h.lt).trans h.f1,
   own_below h.o1 k, own_below h.o2 k, fun q hq => by
    obtain ⟨h1, cs, h2, h3⟩ := h.rows q hq
    exact ⟨h1, cs, (k.block _ (lt_heap h2)).trans h2, h3⟩⟩
theorem BldA.ne1 (h : BldA w0 bb u1 u2 i j lost P C len mv v1 v2 w) : some bb ≠ v1.ownBlock := fun e => by have := (h.o1.lt bb e.symm).1; omega
theorem BldA.ne2 (h : BldA w0 bb u1 u2 i j lost P C len mv v1 v2 w) : some bb ≠ v2.ownBlock := fun e => by have := (h.o2.lt bb e.symm).1; omega
/-- One more of the first list. -/
theorem BldA.app1 (h : BldA w0 bb u1 u2 i j lost P C len mv v1 v2 w) {v1' : Value} {w' : World} {b : Bool} (hx : lost i = b) (ho : w'.ownsRow (bb + 1) 4 1 v1' (i + 1) ((List.range i).map (fun k => .bool (lost k)) ++ [.bool b])) (hg : w.grownBy w' v1.ownBlock) :
    BldA w0 bb u1 u2 (i + 1) j lost P C len mv v1' v2 w' := by
  have hr : ∀ k, v1.ownBlock = some k → w0.heap.size ≤ k := fun k e => by have := (h.o1.lt k e).1; have := h.le; omega
  refine ⟨h.old.grown hg h.old.size hr, h.le, hg.cell h.c0 h.ne1, hg.cell h.c1 h.ne1, (World.frozen?_of_block (w := w) (a := ⟨bb, 0, none⟩) (hg.block bb h.lt h.ne1)).trans h.f0, (World.frozen?_of_block (w := w) (a := ⟨bb, 1, none⟩) (hg.block bb h.lt h.ne1)).trans h.f1, ?_, ?_, fun k hk => ?_⟩
  · rw [range_snoc, hx]; exact ho
  · exact h.o2.kept hg (own_apart h.o2 h.o1 (by decide))
  · obtain ⟨h1, cs, h2, h3⟩ := h.rows k hk
    exact ⟨h1, cs, (hg.block _ (lt_heap h2) (fun e => own_ne h.o1 h2 (by decide) e.symm)).trans h2, h3⟩
/-- One more of the second list. -/
theorem BldA.app2 (h : BldA w0 bb u1 u2 i j lost P C len mv v1 v2 w) {v2' : Value} {w' : World} {p c : Nat} {cs : Array Value} (hp : bb < p) (hrow : w.heap[p]? = some (.cells cs 3 (0, 0))) (hcs : ∀ q, q < len j → cs[q]? = some (.int .i64 (mv j q)))
    (ho : w'.ownsRow (bb + 1) 26 1 v2' (j + 1) ((List.range j).map (fun k => .slice (some ⟨P k, 0, none⟩) (len k) (C k)) ++ [.slice (some ⟨p, 0, none⟩) (len j) c])) (hg : w.grownBy w' v2.ownBlock) :
    BldA w0 bb u1 u2 i (j + 1) lost (updN P j p) (updN C j c) len mv v1 v2' w' := by
  have hr : ∀ k, v2.ownBlock = some k → w0.heap.size ≤ k := fun k e => by have := (h.o2.lt k e).1; have := h.le; omega
  refine ⟨h.old.grown hg h.old.size hr, h.le, hg.cell h.c0 h.ne2, hg.cell h.c1 h.ne2, (World.frozen?_of_block (w := w) (a := ⟨bb, 0, none⟩) (hg.block bb h.lt h.ne2)).trans h.f0, (World.frozen?_of_block (w := w) (a := ⟨bb, 1, none⟩) (hg.block bb h.lt h.ne2)).trans h.f1, ?_, ?_, fun k hk => ?_⟩
  · exact h.o1.kept hg (own_apart h.o1 h.o2 (by decide))
  · rw [range_snoc, range_congr (g := fun k => .slice (some ⟨P k, 0, none⟩) (len k) (C k)) _ (fun k hk => by rw [updN_other _ _ (by omega), updN_other _ _ (by omega)]), updN_same, updN_same]
    exact ho
  · by_cases e : k = j
    · subst e
      rw [updN_same]
      exact ⟨hp, cs, (hg.block _ (lt_heap hrow) (fun e => own_ne h.o2 hrow (by decide) e.symm)).trans hrow, hcs⟩
    · rw [updN_other _ _ e]
      obtain ⟨h1, cs, h2, h3⟩ := h.rows k (by omega)
      exact ⟨h1, cs, (hg.block _ (lt_heap h2) (fun e => own_ne h.o2 h2 (by decide) e.symm)).trans h2, h3⟩
/-- A block of either type lies as it lay. -/
theorem BldA.keep1 (h : BldA w0 bb u1 u2 i j lost P C len mv v1 v2 w) {w' : World} (hg : w.grownBy w' v1.ownBlock) {p : Nat} {cs : Array Value} {ty : TypeId} (hp : w.heap[p]? = some (.cells cs ty (0, 0))) (hne : (4 : TypeId) ≠ ty) : w'.heap[p]? = some (.cells cs ty (0, 0)) :=
  (hg.block _ (lt_heap hp) (fun e => own_ne h.o1 hp hne e.symm)).trans hp
/-- The box is told. -/
theorem BldA.fin (h : BldA w0 bb u1 u2 i j lost P C len mv v1 v2 w) : Bld w0 bb i j lost P C len mv v1 v2 ((w.setCell ⟨bb, 0, none⟩ v1).setCell ⟨bb, 1, none⟩ v2) := by
  refine ⟨(h.old.setCell h.le _).setCell h.le _, h.le, ?_, ?_, by simpa using h.f0, by simpa using h.f1, ?_, ?_, fun k hk => ?_⟩
  · rw [cell_setCell_ne (by simp), World.cell?_setCell_same _ _ _ h.c0]
  · exact World.cell?_setCell_same _ _ _ (by rw [cell_setCell_ne (by simp)]; exact h.c1)
  · exact own_set (own_set h.o1 (by simp) _) (by simp) _
  · exact own_set (own_set h.o2 (by simp) _) (by simp) _
  · obtain ⟨h1, cs, h2, h3⟩ := h.rows k hk
    refine ⟨h1, cs, ?_, h3⟩
    rw [Below.heap_setCell _ _ _ _ (by simp; omega), Below.heap_setCell _ _ _ _ (by simp; omega)]
    exact h2
end
theorem cell1_of {w : World} {q : Nat} {x : Value} {ty : TypeId} (h : w.heap[q]? = some (.cells #[x] ty (0, 0))) : ∀ j u, [x][j]? = some u → w.cell? ((⟨q, 0, none⟩ : Addr).add j) = some u := by
  intro j u hj
  match j, hj with
  | 0, hj =>
    simp at hj
    subst hj
    rw [show (⟨q, 0, none⟩ : Addr).add 0 = ⟨q, 0, none⟩ by simp [Addr.add], cell_of_row _ _ _ _ _ _ h]
    rfl
end Go.Proofs.Ytgohbjlfgiohiaa
