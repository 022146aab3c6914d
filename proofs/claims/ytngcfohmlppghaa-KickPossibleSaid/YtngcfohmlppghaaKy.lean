/- Sensors, kicks and sets of kicks that lie in blocks, and what stores and calls do to them; a list of two sensors. -/
import Derived.Test.YtngcfohmlppghaaKx
import Derived.Test.YtngcfohmlppghaaRk2
namespace Go.Proofs.Ytngcfohmlppghaa
open Go.RowKit

/-- A sensor lies in a block and may be written. -/
structure SC (w : World) (b : Nat) (c p d n s l m k : Int) : Prop where
  c0 : w.cell? ⟨b, 0, none⟩ = some (.int .i64 c)
  c1 : w.cell? ⟨b, 1, none⟩ = some (.int .i64 p)
  c2 : w.cell? ⟨b, 2, none⟩ = some (.int .i64 d)
  c3 : w.cell? ⟨b, 3, none⟩ = some (.int .i64 n)
  c4 : w.cell? ⟨b, 4, none⟩ = some (.int .i64 s)
  c5 : w.cell? ⟨b, 5, none⟩ = some (.int .i64 l)
  c6 : w.cell? ⟨b, 6, none⟩ = some (.int .i64 m)
  c7 : w.cell? ⟨b, 7, none⟩ = some (.int .i64 k)
  fz : ∀ j, w.frozen? ⟨b, j, none⟩ = false
theorem SC.lt {w : World} {b : Nat} {c p d n s l m k : Int} (h : SC w b c p d n s l m k) : b < w.heap.size := lt_of_cell h.c0
theorem SC.kept {w w' : World} {rb b : Nat} {c p d n s l m k : Int} (h : SC w b c p d n s l m k) (kk : RKept rb w w') (hne : b ≠ rb) : SC w' b c p d n s l m k :=
  have hlt := h.lt
  have hc : ∀ j, w'.cell? ⟨b, j, none⟩ = w.cell? ⟨b, j, none⟩ := fun _ => kk.cell (p := ⟨_, _, _⟩) hlt hne
  ⟨(hc 0).trans h.c0, (hc 1).trans h.c1, (hc 2).trans h.c2, (hc 3).trans h.c3, (hc 4).trans h.c4, (hc 5).trans h.c5, (hc 6).trans h.c6, (hc 7).trans h.c7, fun j => (kk.frozen (p := ⟨_, _, _⟩) hlt hne).trans (h.fz j)⟩
theorem SC.below {w w' : World} {b : Nat} {c p d n s l m k : Int} (h : SC w b c p d n s l m k) (kk : Below w.heap.size w w') : SC w' b c p d n s l m k := h.kept (rb := b + 1) (RKept.of_below kk) (by omega)
theorem SC.far {w : World} {b b' o : Nat} {v : Value} {c p d n s l m k : Int} (h : SC w b c p d n s l m k) (hne : b ≠ b') : SC (w.setCell ⟨b', o, none⟩ v) b c p d n s l m k :=
  have hc : ∀ j, (w.setCell ⟨b', o, none⟩ v).cell? ⟨b, j, none⟩ = w.cell? ⟨b, j, none⟩ := fun _ => World.cell?_setCell_other _ _ _ _ (fun e => hne (congrArg Addr.block e).symm)
  ⟨(hc 0).trans h.c0, (hc 1).trans h.c1, (hc 2).trans h.c2, (hc 3).trans h.c3, (hc 4).trans h.c4, (hc 5).trans h.c5, (hc 6).trans h.c6, (hc 7).trans h.c7, fun j => by simpa using h.fz j⟩
theorem SC.drew {w : World} {b : Nat} {c p d n s l m k : Int} (h : SC w b c p d n s l m k) : SC w.drew b c p d n s l m k := ⟨h.c0, h.c1, h.c2, h.c3, h.c4, h.c5, h.c6, h.c7, h.fz⟩
theorem SC.drewN {w : World} {b q : Nat} {c p d n s l m k : Int} (h : SC w b c p d n s l m k) : SC (w.drewN q) b c p d n s l m k := ⟨h.c0, h.c1, h.c2, h.c3, h.c4, h.c5, h.c6, h.c7, h.fz⟩
theorem SC.set2 {w : World} {b : Nat} {c p d n s l m k : Int} (h : SC w b c p d n s l m k) (z : Int) : SC (w.setCell ⟨b, 2, none⟩ (.int .i64 z)) b c p z n s l m k :=
  ⟨(World.cell?_setCell_other _ _ _ _ (by simp)).trans h.c0, (World.cell?_setCell_other _ _ _ _ (by simp)).trans h.c1, World.cell?_setCell_same _ _ _ h.c2, (World.cell?_setCell_other _ _ _ _ (by simp)).trans h.c3, (World.cell?_setCell_other _ _ _ _ (by simp)).trans h.c4, (World.cell?_setCell_other _ _ _ _ (by simp)).trans h.c5, (World.cell?_setCell_other _ _ _ _ (by simp)).trans h.c6, (World.cell?_setCell_other _ _ _ _ (by simp)).trans h.c7, fun q => by simpa using h.fz q⟩
theorem SC.set3 {w : World} {b : Nat} {c p d n s l m k : Int} (h : SC w b c p d n s l m k) (z : Int) : SC (w.setCell ⟨b, 3, none⟩ (.int .i64 z)) b c p d z s l m k :=
  ⟨(World.cell?_setCell_other _ _ _ _ (by simp)).trans h.c0, (World.cell?_setCell_other _ _ _ _ (by simp)).trans h.c1, (World.cell?_setCell_other _ _ _ _ (by simp)).trans h.c2, World.cell?_setCell_same _ _ _ h.c3, (World.cell?_setCell_other _ _ _ _ (by simp)).trans h.c4, (World.cell?_setCell_other _ _ _ _ (by simp)).trans h.c5, (World.cell?_setCell_other _ _ _ _ (by simp)).trans h.c6, (World.cell?_setCell_other _ _ _ _ (by simp)).trans h.c7, fun q => by simpa using h.fz q⟩
theorem SC.set5 {w : World} {b : Nat} {c p d n s l m k : Int} (h : SC w b c p d n s l m k) (z : Int) : SC (w.setCell ⟨b, 5, none⟩ (.int .i64 z)) b c p d n s z m k :=
  ⟨(World.cell?_setCell_other _ _ _ _ (by simp)).trans h.c0, (World.cell?_setCell_other _ _ _ _ (by simp)).trans h.c1, (World.cell?_setCell_other _ _ _ _ (by simp)).trans h.c2, (World.cell?_setCell_other _ _ _ _ (by simp)).trans h.c3, (World.cell?_setCell_other _ _ _ _ (by simp)).trans h.c4, World.cell?_setCell_same _ _ _ h.c5, (World.cell?_setCell_other _ _ _ _ (by simp)).trans h.c6, (World.cell?_setCell_other _ _ _ _ (by simp)).trans h.c7, fun q => by simpa using h.fz q⟩
theorem SC.set6 {w : World} {b : Nat} {c p d n s l m k : Int} (h : SC w b c p d n s l m k) (z : Int) : SC (w.setCell ⟨b, 6, none⟩ (.int .i64 z)) b c p d n s l z k :=
  ⟨(World.cell?_setCell_other _ _ _ _ (by simp)).trans h.c0, (World.cell?_setCell_other _ _ _ _ (by simp)).trans h.c1, (World.cell?_setCell_other _ _ _ _ (by simp)).trans h.c2, (World.cell?_setCell_other _ _ _ _ (by simp)).trans h.c3, (World.cell?_setCell_other _ _ _ _ (by simp)).trans h.c4, (World.cell?_setCell_other _ _ _ _ (by simp)).trans h.c5, World.cell?_setCell_same _ _ _ h.c6, (World.cell?_setCell_other _ _ _ _ (by simp)).trans h.c7, fun q => by simpa using h.fz q⟩
theorem SC.set7 {w : World} {b : Nat} {c p d n s l m k : Int} (h : SC w b c p d n s l m k) (z : Int) : SC (w.setCell ⟨b, 7, none⟩ (.int .i64 z)) b c p d n s l m z :=
  ⟨(World.cell?_setCell_other _ _ _ _ (by simp)).trans h.c0, (World.cell?_setCell_other _ _ _ _ (by simp)).trans h.c1, (World.cell?_setCell_other _ _ _ _ (by simp)).trans h.c2, (World.cell?_setCell_other _ _ _ _ (by simp)).trans h.c3, (World.cell?_setCell_other _ _ _ _ (by simp)).trans h.c4, (World.cell?_setCell_other _ _ _ _ (by simp)).trans h.c5, (World.cell?_setCell_other _ _ _ _ (by simp)).trans h.c6, World.cell?_setCell_same _ _ _ h.c7, fun q => by simpa using h.fz q⟩
/-- A set of kicks lies in a block. -/
structure QC (w : World) (b : Nat) (x0 x1 x2 x3 : Int) : Prop where
  c0 : w.cell? ⟨b, 0, none⟩ = some (.int .i64 x0)
  c1 : w.cell? ⟨b, 1, none⟩ = some (.int .i64 x1)
  c2 : w.cell? ⟨b, 2, none⟩ = some (.int .i64 x2)
  c3 : w.cell? ⟨b, 3, none⟩ = some (.int .i64 x3)
theorem QC.lt {w : World} {b : Nat} {x0 x1 x2 x3 : Int} (h : QC w b x0 x1 x2 x3) : b < w.heap.size := lt_of_cell h.c0
theorem QC.kept {w w' : World} {rb b : Nat} {x0 x1 x2 x3 : Int} (h : QC w b x0 x1 x2 x3) (kk : RKept rb w w') (hne : b ≠ rb) : QC w' b x0 x1 x2 x3 :=
  have hlt := h.lt
  have hc : ∀ j, w'.cell? ⟨b, j, none⟩ = w.cell? ⟨b, j, none⟩ := fun _ => kk.cell (p := ⟨_, _, _⟩) hlt hne
  ⟨(hc 0).trans h.c0, (hc 1).trans h.c1, (hc 2).trans h.c2, (hc 3).trans h.c3⟩
theorem QC.below {w w' : World} {b : Nat} {x0 x1 x2 x3 : Int} (h : QC w b x0 x1 x2 x3) (kk : Below w.heap.size w w') : QC w' b x0 x1 x2 x3 := h.kept (rb := b + 1) (RKept.of_below kk) (by omega)
theorem QC.far {w : World} {b b' o : Nat} {v : Value} {x0 x1 x2 x3 : Int} (h : QC w b x0 x1 x2 x3) (hne : b ≠ b') : QC (w.setCell ⟨b', o, none⟩ v) b x0 x1 x2 x3 :=
  have hc : ∀ j, (w.setCell ⟨b', o, none⟩ v).cell? ⟨b, j, none⟩ = w.cell? ⟨b, j, none⟩ := fun _ => World.cell?_setCell_other _ _ _ _ (fun e => hne (congrArg Addr.block e).symm)
  ⟨(hc 0).trans h.c0, (hc 1).trans h.c1, (hc 2).trans h.c2, (hc 3).trans h.c3⟩
theorem QC.drew {w : World} {b : Nat} {x0 x1 x2 x3 : Int} (h : QC w b x0 x1 x2 x3) : QC w.drew b x0 x1 x2 x3 := ⟨h.c0, h.c1, h.c2, h.c3⟩
theorem SC.low {B : Nat} {w w' : World} {b : Nat} {c p d n s l m k : Int} (h : SC w b c p d n s l m k) (kk : Below B w w') (hb : b < B) : SC w' b c p d n s l m k :=
  have hc : ∀ j, w'.cell? ⟨b, j, none⟩ = w.cell? ⟨b, j, none⟩ := fun _ => kk.cell (p := ⟨_, _, _⟩) hb
  ⟨(hc 0).trans h.c0, (hc 1).trans h.c1, (hc 2).trans h.c2, (hc 3).trans h.c3, (hc 4).trans h.c4, (hc 5).trans h.c5, (hc 6).trans h.c6, (hc 7).trans h.c7, fun j => (kk.frozen (p := ⟨_, _, _⟩) hb).trans (h.fz j)⟩
theorem QC.low {B : Nat} {w w' : World} {b : Nat} {x0 x1 x2 x3 : Int} (h : QC w b x0 x1 x2 x3) (kk : Below B w w') (hb : b < B) : QC w' b x0 x1 x2 x3 :=
  have hc : ∀ j, w'.cell? ⟨b, j, none⟩ = w.cell? ⟨b, j, none⟩ := fun _ => kk.cell (p := ⟨_, _, _⟩) hb
  ⟨(hc 0).trans h.c0, (hc 1).trans h.c1, (hc 2).trans h.c2, (hc 3).trans h.c3⟩
theorem KC.low {B : Nat} {w w' : World} {b : Nat} {r g : Int} (h : KC w b r g) (kk : Below B w w') (hb : b < B) : KC w' b r g :=
  ⟨(kk.cell (p := ⟨_, _, _⟩) hb).trans h.c0, (kk.cell (p := ⟨_, _, _⟩) hb).trans h.c1⟩
theorem KC.below {w w' : World} {b : Nat} {r g : Int} (h : KC w b r g) (kk : Below w.heap.size w w') : KC w' b r g := h.kept (rb := b + 1) (RKept.of_below kk) (by omega)

theorem twoS_is (w : World) (ty : TypeId) (c p d n s l m k c' p' d' n' s' l' m' k' : Int) :
    IsSens (w.alloc (.cells #[.int .i64 c, .int .i64 p, .int .i64 d, .int .i64 n, .int .i64 s, .int .i64 l, .int .i64 m, .int .i64 k, .int .i64 c', .int .i64 p', .int .i64 d', .int .i64 n', .int .i64 s', .int .i64 l', .int .i64 m', .int .i64 k'] ty)) (some ⟨w.heap.size, 0, none⟩) 2 2 (twoS c p d n s l m k c' p' d' n' s' l' m' k') := by
  refine ⟨by decide, fun _ => ⟨w.heap.size, 0, rfl, by simp, fun i j hi hj => ?_⟩, Nat.le_refl _⟩
  have hi' : i = 0 ∨ i = 1 := by omega
  have hj' : j = 0 ∨ j = 1 ∨ j = 2 ∨ j = 3 ∨ j = 4 ∨ j = 5 ∨ j = 6 ∨ j = 7 := by omega
  rcases hi' with rfl | rfl <;> rcases hj' with rfl | rfl | rfl | rfl | rfl | rfl | rfl | rfl <;> simp [go_sem, twoS]
end Go.Proofs.Ytngcfohmlppghaa
