/- A blow-out that is being made: two lists that grow, and the rows that one of them names. -/
import Derived.Test.YtgohbjlfgiohiaaHa
import Derived.OwnWalk
namespace Go.Proofs.Ytgohbjlfgiohiaa
open Go.RowKit

theorem own_slice {w : World} {B : Nat} {ty : TypeId} {sz n : Nat} {v : Value} {xs : List Value} (h : w.ownsRow B ty sz v n xs) : ∃ ao cp, v = .slice ao n cp := by
  rcases h.2 with ⟨rfl, rfl⟩ | ⟨g, cap, cur, rfl, _⟩
  · exact ⟨_, _, rfl⟩
  · exact ⟨_, _, rfl⟩
theorem own_ne {w : World} {B : Nat} {ty ty' : TypeId} {sz n k : Nat} {v : Value} {xs : List Value} {cs : Array Value} {r : Nat × Nat} (h : w.ownsRow B ty sz v n xs) (hk : w.heap[k]? = some (.cells cs ty' r)) (hne : ty ≠ ty') : v.ownBlock ≠ some k := by
  rcases h.2 with ⟨rfl, rfl⟩ | ⟨g, cap, cur, rfl, _, hg, _⟩
  · simp [Value.ownBlock]
  · intro e
    simp [Value.ownBlock] at e
    subst e
    rw [hg] at hk
    injection hk with hk
    injection hk with _ hk _
    exact hne hk
theorem own_block {w : World} {B : Nat} {ty : TypeId} {sz n : Nat} {v : Value} {xs : List Value} (h : w.ownsRow B ty sz v n xs) : v.ownBlock = none ∨ ∃ g cur, v.ownBlock = some g ∧ w.heap[g]? = some (.cells cur ty (0, 0)) := by
  rcases h.2 with ⟨rfl, rfl⟩ | ⟨g, cap, cur, rfl, _, hg, _⟩
  · exact .inl rfl
  · exact .inr ⟨g, cur, rfl, hg⟩
/-- Two owned rows of two types do not meet. -/
theorem own_apart {w : World} {B B' : Nat} {ty ty' : TypeId} {sz sz' n n' : Nat} {v v' : Value} {xs xs' : List Value} (h : w.ownsRow B ty sz v n xs) (h' : w.ownsRow B' ty' sz' v' n' xs') (hne : ty ≠ ty') : v.ownBlock = none ∨ v.ownBlock ≠ v'.ownBlock := by
  rcases own_block h with e | ⟨g, cur, e, hg⟩
  · exact .inl e
  · refine .inr fun e' => ?_
    exact own_ne h' hg (fun q => hne q.symm) (by rw [← e', e])
theorem heap_below {B : Nat} {w w' : World} (h : Below B w w') {k : Nat} (hk : k < B) : w'.heap[k]? = w.heap[k]? := h.block k hk
theorem lt_heap {w : World} {k : Nat} {o : Obj} (h : w.heap[k]? = some o) : k < w.heap.size := (Array.getElem?_eq_some_iff.1 h).1
theorem below_grown {w w' : World} (h : Below w.heap.size w w') : w.grownBy w' none := ⟨h.os, h.tape, h.output, h.size, fun k hk _ => h.block k hk⟩
theorem own_below {w w' : World} {B : Nat} {ty : TypeId} {sz n : Nat} {v : Value} {xs : List Value} (h : w.ownsRow B ty sz v n xs) (k : Below w.heap.size w w') : w'.ownsRow B ty sz v n xs :=
  h.kept (below_grown k) (by cases hv : v.ownBlock <;> simp)
theorem range_snoc (n : Nat) (f : Nat → Value) : (List.range (n + 1)).map f = (List.range n).map f ++ [f n] := by
  rw [List.range_succ, List.map_append]; rfl
theorem range_congr (n : Nat) {f g : Nat → Value} (h : ∀ i, i < n → f i = g i) : (List.range n).map f = (List.range n).map g :=
  List.map_congr_left fun i hi => h i (List.mem_range.1 hi)
def updN (s : Nat → Nat) (i : Nat) (x : Nat) : Nat → Nat := fun j => if j = i then x else s j
theorem updN_same (s : Nat → Nat) (i : Nat) (x : Nat) : updN s i x i = x := by simp [updN]
theorem updN_other (s : Nat → Nat) {i j : Nat} (x : Nat) (h : j ≠ i) : updN s i x j = s j := by simp [updN, h]

/-- A blow-out that is being made in block bb: i of the one list, j of the other. -/
structure Bld (w0 : World) (bb i j : Nat) (lost : Nat → Bool) (P C len : Nat → Nat) (mv : Nat → Nat → Int) (v1 v2 : Value) (w : World) : Prop where
  old : Below w0.heap.size w0 w
  le : w0.heap.size ≤ bb
  c0 : w.cell? ⟨bb, 0, none⟩ = some v1
  c1 : w.cell? ⟨bb, 1, none⟩ = some v2
  f0 : w.frozen? ⟨bb, 0, none⟩ = false
  f1 : w.frozen? ⟨bb, 1, none⟩ = false
  o1 : w.ownsRow (bb + 1) 4 1 v1 i ((List.range i).map fun k => .bool (lost k))
  o2 : w.ownsRow (bb + 1) 26 1 v2 j ((List.range j).map fun k => .slice (some ⟨P k, 0, none⟩) (len k) (C k))
  rows : ∀ k, k < j → bb < P k ∧ ∃ cs, w.heap[P k]? = some (.cells cs 3 (0, 0)) ∧ ∀ q, q < len k → cs[q]? = some (.int .i64 (mv k q))
section
variable {w0 : World} {bb i j : Nat} {lost : Nat → Bool} {P C len : Nat → Nat} {mv : Nat → Nat → Int} {v1 v2 : Value} {w : World}
theorem Bld.lt (h : Bld w0 bb i j lost P C len mv v1 v2 w) : bb < w.heap.size := lt_of_cell h.c0
theorem Bld.below {w' : World} (h : Bld w0 bb i j lost P C len mv v1 v2 w) (k : Below w.heap.size w w') : Bld w0 bb i j lost P C len mv v1 v2 w' :=
  ⟨below_next h.old k, h.le, (k.cell (p := ⟨_, _, _⟩) h.lt).trans h.c0, (k.cell (p := ⟨_, _, _⟩) h.lt).trans h.c1, (k.frozen (p := ⟨_, _, _⟩) h.lt).trans h.f0, (k.frozen (p := ⟨_, _, _⟩) h.lt).trans h.f1,
   own_below h.o1 k, own_below h.o2 k, fun q hq => by
    obtain ⟨h1, cs, h2, h3⟩ := h.rows q hq
    exact ⟨h1, cs, (k.block _ (lt_heap h2)).trans h2, h3⟩⟩
theorem cell_setCell_ne {w : World} {p q : Addr} {v : Value} (h : p ≠ q) : (w.setCell p v).cell? q = w.cell? q := by first | exact World.cell?_setCell_other _ _ _ _ h | exact World.cell?_setCell_other _ _ _ _ (fun e => h e.symm)
theorem own_set {B : Nat} {ty : TypeId} {sz n : Nat} {v : Value} {xs : List Value} (h : w.ownsRow B ty sz v n xs) {p : Addr} (hp : p.block < B) (x : Value) : (w.setCell p x).ownsRow B ty sz v n xs := ownsRow_setCell_below h hp x
theorem Bld.stay0 (h : Bld w0 bb i j lost P C len mv v1 v2 w) {w' : World} (hg : w.grownBy w' v1.ownBlock) : w'.cell? ⟨bb, 0, none⟩ = some v1 ∧ w'.frozen? ⟨bb, 0, none⟩ = false := by
  have hne : some bb ≠ v1.ownBlock := by
    intro e
    have := (h.o1.lt bb e.symm).1
    omega
  exact ⟨hg.cell h.c0 hne, (World.frozen?_of_block (w := w) (a := ⟨bb, 0, none⟩) (hg.block bb h.lt hne)).trans h.f0⟩
theorem Bld.stay1 (h : Bld w0 bb i j lost P C len mv v1 v2 w) {w' : World} (hg : w.grownBy w' v2.ownBlock) : w'.cell? ⟨bb, 1, none⟩ = some v2 ∧ w'.frozen? ⟨bb, 1, none⟩ = false := by
  have hne : some bb ≠ v2.ownBlock := by
    intro e
    have := (h.o2.lt bb e.symm).1
    omega
  exact ⟨hg.cell h.c1 hne, (World.frozen?_of_block (w := w) (a := ⟨bb, 1, none⟩) (hg.block bb h.lt hne)).trans h.f1⟩
/-- One more of the first list. -/
theorem Bld.addLost (h : Bld w0 bb i j lost P C len mv v1 v2 w) {v1' : Value} {w' : World} {b : Bool} (hx : lost i = b) (ho : w'.ownsRow (bb + 1) 4 1 v1' (i + 1) ((List.range i).map (fun k => .bool (lost k)) ++ [.bool b])) (hg : w.grownBy w' v1.ownBlock) :
    Bld w0 bb (i + 1) j lost P C len mv v1' v2 (w'.setCell ⟨bb, 0, none⟩ v1') := by
  have hlt := h.lt
  have hne : some bb ≠ v1.ownBlock := by
    intro e
    have := (h.o1.lt bb e.symm).1
    omega
  have hr : ∀ k, v1.ownBlock = some k → w0.heap.size ≤ k := fun k e => by have := (h.o1.lt k e).1; have := h.le; omega
  have hsz : w0.heap.size ≤ w.heap.size := h.old.size
  have c0 : w'.cell? ⟨bb, 0, none⟩ = some v1 := hg.cell h.c0 hne
  refine ⟨(h.old.grown hg hsz hr).setCell h.le _, h.le, World.cell?_setCell_same _ _ _ c0, ?_, ?_, ?_, ?_, ?_, fun k hk => ?_⟩
  · rw [cell_setCell_ne (by simp)]; exact hg.cell h.c1 hne
  · simpa using (World.frozen?_of_block (w := w) (a := ⟨bb, 0, none⟩) (hg.block bb hlt hne)).trans h.f0
  · simpa using (World.frozen?_of_block (w := w) (a := ⟨bb, 1, none⟩) (hg.block bb hlt hne)).trans h.f1
  · rw [range_snoc, hx]; exact own_set ho (by simp) _
  · exact own_set (h.o2.kept hg (own_apart h.o2 h.o1 (by decide))) (by simp) _
  · obtain ⟨h1, cs, h2, h3⟩ := h.rows k hk
    refine ⟨h1, cs, ?_, h3⟩
    rw [Below.heap_setCell _ _ _ _ (by simp; omega), hg.block _ (lt_heap h2) (fun e => own_ne h.o1 h2 (by decide) e.symm)]
    exact h2
/-- One more of the second list. -/
theorem Bld.addMoves (h : Bld w0 bb i j lost P C len mv v1 v2 w) {v2' : Value} {w' : World} {p c : Nat} {cs : Array Value} (hp : bb < p) (hrow : w.heap[p]? = some (.cells cs 3 (0, 0))) (hcs : ∀ q, q < len j → cs[q]? = some (.int .i64 (mv j q)))
    (ho : w'.ownsRow (bb + 1) 26 1 v2' (j + 1) ((List.range j).map (fun k => .slice (some ⟨P k, 0, none⟩) (len k) (C k)) ++ [.slice (some ⟨p, 0, none⟩) (len j) c])) (hg : w.grownBy w' v2.ownBlock) :
    Bld w0 bb i (j + 1) lost (updN P j p) (updN C j c) len mv v1 v2' (w'.setCell ⟨bb, 1, none⟩ v2') := by
  have hlt := h.lt
  have hne : some bb ≠ v2.ownBlock := by
    intro e
    have := (h.o2.lt bb e.symm).1
    omega
  have hr : ∀ k, v2.ownBlock = some k → w0.heap.size ≤ k := fun k e => by have := (h.o2.lt k e).1; have := h.le; omega
  have hsz : w0.heap.size ≤ w.heap.size := h.old.size
  have c1 : w'.cell? ⟨bb, 1, none⟩ = some v2 := hg.cell h.c1 hne
  refine ⟨(h.old.grown hg hsz hr).setCell h.le _, h.le, ?_, World.cell?_setCell_same _ _ _ c1, ?_, ?_, ?_, ?_, fun k hk => ?_⟩
  · rw [cell_setCell_ne (by simp)]; exact hg.cell h.c0 hne
  · simpa using (World.frozen?_of_block (w := w) (a := ⟨bb, 0, none⟩) (hg.block bb hlt hne)).trans h.f0
  · simpa using (World.frozen?_of_block (w := w) (a := ⟨bb, 1, none⟩) (hg.block bb hlt hne)).trans h.f1
  · exact own_set (h.o1.kept hg (own_apart h.o1 h.o2 (by decide))) (by simp) _
  · rw [range_snoc, range_congr (g := fun k => .slice (some ⟨P k, 0, none⟩) (len k) (C k)) _ (fun k hk => by rw [updN_other _ _ (by omega), updN_other _ _ (by omega)]), updN_same, updN_same]
    exact own_set ho (by simp) _
  · by_cases e : k = j
    · subst e
      rw [updN_same]
      refine ⟨hp, cs, ?_, hcs⟩
      rw [Below.heap_setCell _ _ _ _ (by simp; omega), hg.block _ (lt_heap hrow) (fun e => own_ne h.o2 hrow (by decide) e.symm)]
      exact hrow
    · rw [updN_other _ _ e]
      obtain ⟨h1, cs, h2, h3⟩ := h.rows k (by omega)
      refine ⟨h1, cs, ?_, h3⟩
      rw [Below.heap_setCell _ _ _ _ (by simp; omega), hg.block _ (lt_heap h2) (fun e => own_ne h.o2 h2 (by decide) e.symm)]
      exact h2
/-- A block that is no list's lies as it lay. -/
theorem Bld.keep1 (h : Bld w0 bb i j lost P C len mv v1 v2 w) {w' : World} (hg : w.grownBy w' v1.ownBlock) {p : Nat} {cs : Array Value} (hp : w.heap[p]? = some (.cells cs 3 (0, 0))) (hne : bb ≠ p) (x : Value) : (w'.setCell ⟨bb, 0, none⟩ x).heap[p]? = some (.cells cs 3 (0, 0)) := by
  rw [Below.heap_setCell _ _ _ _ (by simp; omega), hg.block _ (lt_heap hp) (fun e => own_ne h.o1 hp (by decide) e.symm)]
  exact hp
/-- It is made. -/
theorem Bld.fin {n : Nat} (h : Bld w0 bb n n lost P C len mv v1 v2 w) (hn : 0 < n) : ∃ lb mb lc mc, v1 = .slice (some ⟨lb, 0, none⟩) n lc ∧ v2 = .slice (some ⟨mb, 0, none⟩) n mc ∧
    ∀ w' : World, (∀ k, bb < k → w'.heap[k]? = w.heap[k]?) → BIs w' lb 0 mb 0 n lost P (fun _ => 0) C len mv := by
  have h1 := h.o1
  have h2 := h.o2
  rcases h1.2 with ⟨_, e⟩ | ⟨lb, lc, cur, rfl, hb1, _⟩
  · omega
  rcases h2.2 with ⟨_, e⟩ | ⟨mb, mc, cur', rfl, hb2, _⟩
  · omega
  refine ⟨lb, mb, lc, mc, rfl, rfl, fun w' hw => ⟨fun q hq => ?_, fun q hq => ?_, fun q k hq hk => ?_⟩⟩
  · rw [World.cell?_of_block (w := w) (hw lb (by omega)), Nat.zero_add, h1.cellAt q (by omega)]
    simp [hq]
  · rw [World.cell?_of_block (w := w) (hw mb (by omega)), Nat.zero_add, h2.cellAt q (by omega)]
    simp [hq]
  · obtain ⟨g0, cs, g1, g2⟩ := h.rows q hq
    rw [World.cell?_of_block (w := w) (hw (P q) g0), Nat.zero_add, cell_of_row _ _ _ _ _ _ g1]
    exact g2 k hk
end
theorem info_bool : (Try.prog.info? 4).map (fun i => (i.zero, i.size, i.bytes)) = some (some (.bool false), 1, 1) := by kernel_rfl
theorem info_ints : (Try.prog.info? 26).map (fun i => (i.zero, i.size, i.bytes)) = some (some (.slice none 0 0), 1, 24) := by kernel_rfl
theorem cells1 (w : World) (ty : TypeId) (x : Value) : ∀ j u, [x][j]? = some u → (w.alloc (.cells #[x] ty)).cell? ((⟨w.heap.size, 0, none⟩ : Addr).add j) = some u := by
  intro j u hj
  match j, hj with
  | 0, hj => simp at hj; subst hj; simp [Addr.add, go_sem]
theorem info_int : (Try.prog.info? 3).map (fun i => (i.zero, i.size, i.bytes)) = some (some (.int .i64 0), 1, 8) := by kernel_rfl
theorem oneI {x : Int} : ∀ u ∈ [Value.int .i64 x], u.oneCell' = true := by intro u hu; simp at hu; subst hu; rfl
theorem oneB {b : Bool} : ∀ u ∈ [Value.bool b], u.oneCell' = true := by intro u hu; simp at hu; subst hu; rfl
theorem oneS {a : Option Addr} {n c : Nat} : ∀ u ∈ [Value.slice a n c], u.oneCell' = true := by intro u hu; simp at hu; subst hu; rfl
end Go.Proofs.Ytgohbjlfgiohiaa
