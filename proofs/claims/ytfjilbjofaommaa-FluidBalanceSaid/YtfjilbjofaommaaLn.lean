/- An argument that is a slice of structs of integers, or a struct of one such slice, opened to its cells. -/
import Derived.Test.YtfjilbjofaommaaKr
import Derived.Deep.Slices
import Derived.Deep.Fields
import Derived.ChangeSame
namespace Go.Proofs.Ytfjilbjofaommaa
open Go.ChangeShapes Go.WideShapes Go.RowKit Go.Deep

/-- A slice of structs of k integers that came in: nil, or a row of cells, k for each. -/
def IsRows (k : Nat) (w : World) (a : Option Addr) (len cap : Nat) (S : Nat → Nat → Int) : Prop :=
  len ≤ 9223372036854775807 ∧ (0 < len → ∃ b off, a = some ⟨b, off, none⟩ ∧ b < w.heap.size ∧ ∀ i j, i < len → j < k → w.cell? ⟨b, off + i * k + j, none⟩ = some (.int .i64 (S i j))) ∧ len ≤ cap
theorem cell_spot {w : World} {a : Addr} {v : Value} (h : w.cell? a = some v) : a.spot = none ∧ a.block < w.heap.size := by
  unfold World.cell? at h
  split at h
  · rename_i hb
    refine ⟨?_, (Array.getElem?_eq_some_iff.1 hb).1⟩
    cases hs : a.spot with
    | none => rfl
    | some x => simp [hs] at h
  · cases h
theorem add_flat {b o n : Nat} : (⟨b, o, none⟩ : Addr).add n = ⟨b, o + n, none⟩ := by
  unfold Addr.add
  split
  · rename_i h; subst h; rfl
  · rfl
section
variable {H : Type} {enc : TypeId × Value → H} {P : Program} {w : World} {base : Nat} {spare : Nat → Bool} {held : Bool}
theorem open_slice_fields {t e : TypeId} {fs : Array Field} {fuel : Nat} {cs : List Value} {x : DataW H × List MemPlace} (ht : P.underlying t = some (.slice e)) (he : P.underlying e = some (.struct fs))
    (hone : oneCellFields P fs = true) (hC : P.cellsOf e = fs.size) (h : DataW.trod enc P w base spare held fuel t cs = some x) :
    (cs = [.slice none 0 0] ∧ x = (.nil, [])) ∨
    ∃ (a : Addr) (len cap m : Nat), cs = [.slice (some a) len cap] ∧ len ≤ cap ∧ cap ≤ maxLen ∧ m = (if spare a.block then cap else len) ∧
      ∀ i, i < m → ∀ (j : Nat) (f : Field), fs[j]? = some f → ∃ (n : Nat) (v : Value) (y : DataW H × List MemPlace), w.cell? (a.add (i * fs.size + j)) = some v ∧ DataW.trod enc P w base spare held n f.type [v] = some y := by
  rcases open_slice ht h with h0 | ⟨a, len, cap, m, n, D, Pl, hcs, hb, hl, hm, hmm, hx, hi⟩
  · exact .inl h0
  · refine .inr ⟨a, len, cap, m, hcs, hl, hm, hmm, fun i him => ?_⟩
    obtain ⟨cs', hc, ht'⟩ := hi i him
    rw [hC] at hc
    obtain ⟨ys, n', hn', hy, hlen, hyl, hf⟩ := DataW.trod_struct he ht'
    obtain ⟨_, hcl, hat⟩ := World.cells?_some hc
    intro j f hj
    obtain ⟨ho, hk⟩ := hone_of hone j f hj
    have hjl : j < fs.size := (Array.getElem?_eq_some_iff.1 hj).1
    have hcell := hat j hjl
    have hv : cs'[j]? = some (cs'[j]'(by omega)) := List.getElem?_eq_getElem (by omega)
    have h1 := hf j f hj
    rw [ho, hk] at h1
    have hone' : (cs'.drop j).take 1 = [cs'[j]'(by omega)] := by
      rw [List.drop_eq_getElem_cons (by omega)]
      rfl
    rw [hone'] at h1
    have hys : ys[j]? = some (ys[j]'(by omega)) := List.getElem?_eq_getElem (by omega)
    refine ⟨_, _, _, ?_, h1.trans hys⟩
    rw [← Go.Deep.add_add, hcell, hv]
/-- A slice of structs of integers that came in, as a value. -/
theorem cells_rows {t e : TypeId} {fs : Array Field} {d : DataW H} {ps : List MemPlace} (ht : P.underlying t = some (.slice e)) (he : P.underlying e = some (.struct fs)) (hone : oneCellFields P fs = true) (hC : P.cellsOf e = fs.size)
    (hi : fs.all (fun f => isI64 P f.type) = true) (hp : 0 < fs.size) {fuel : Nat} {cs : List Value} (hf : DataW.trod enc P w base (fun _ => true) held fuel t cs = some (d, ps)) :
    ∃ a len cap S, cs = [.slice a len cap] ∧ IsRows fs.size w a len cap S ∧ ∀ i j, i < len → j < fs.size → IntKind.i64.has (S i j) := by
  rcases open_slice_fields ht he hone hC hf with ⟨hcs, _⟩ | ⟨a, len, cap, m, hcs, hl, hm, hmm, hat⟩
  · subst hcs
    exact ⟨_, _, _, fun _ _ => 0, rfl, ⟨by omega, fun h => absurd h (by omega), by omega⟩, fun i j h => absurd h (by omega)⟩
  · subst hcs
    have hmc : m = cap := by simpa using hmm
    rw [hmc] at hat
    clear hmm
    have hi' : ∀ j (h : j < fs.size), isI64 P fs[j].type = true := by simpa using hi
    have hex : ∀ i j, i < cap → j < fs.size → ∃ n, w.cell? (a.add (i * fs.size + j)) = some (.int .i64 n) ∧ IntKind.i64.has n := by
      intro i j hi0 hj
      obtain ⟨n, v, y, hc, ht'⟩ := hat i hi0 j _ (Array.getElem?_eq_getElem hj)
      obtain ⟨z, hz, -, hw⟩ := DataW.trod_int (i64_of (hi' j hj)) ht'
      obtain rfl : v = .int .i64 z := by simpa using hz
      exact ⟨z, hc, (by simpa [Lit.wf] using hw : IntKind.i64.min ≤ z ∧ z ≤ 9223372036854775807)⟩
    have hmx : maxLen ≤ 9223372036854775807 := by decide
    by_cases h0 : 0 < cap
    · obtain ⟨n0, hc0, -⟩ := hex 0 0 h0 hp
      obtain ⟨b, off, spot⟩ := a
      have h00 : (Addr.mk b off spot).add (0 * fs.size + 0) = ⟨b, off, spot⟩ := by simp [Addr.add]
      rw [h00] at hc0
      obtain ⟨hs, hlt⟩ := cell_spot hc0
      simp only at hs hlt
      subst hs
      have hx : ∀ i j, i < cap → j < fs.size → ∃ n, w.cell? ⟨b, off + i * fs.size + j, none⟩ = some (.int .i64 n) ∧ IntKind.i64.has n := by
        intro i j hi0 hj
        have h := hex i j hi0 hj
        rw [add_flat] at h
        rw [Nat.add_assoc]
        exact h
      refine ⟨_, _, _, fun i j => if h : i < cap ∧ j < fs.size then (hx i j h.1 h.2).choose else 0, rfl, ⟨by omega, fun _ => ⟨b, off, rfl, hlt, fun i j hi0 hj => ?_⟩, hl⟩, fun i j hi0 hj => ?_⟩
      · dsimp only
        rw [dif_pos ⟨by omega, hj⟩]
        exact (hx i j (by omega) hj).choose_spec.1
      · show IntKind.i64.has (if h : i < cap ∧ j < fs.size then (hx i j h.1 h.2).choose else 0)
        rw [dif_pos ⟨by omega, hj⟩]
        exact (hx i j (by omega) hj).choose_spec.2
    · exact ⟨_, _, _, fun _ _ => 0, rfl, ⟨by omega, fun h => absurd h (by omega), hl⟩, fun i j h => absurd h (by omega)⟩
/-- A slice of structs of integers that came in, as a value. -/
theorem val_rows {r : Reach} {b0 : Nat} {t e : TypeId} {fs : Array Field} {v : Value} {d : DataW H} {ps : List MemPlace} (ht : P.underlying t = some (.slice e)) (he : P.underlying e = some (.struct fs)) (hone : oneCellFields P fs = true) (hC : P.cellsOf e = fs.size)
    (hi : fs.all (fun f => isI64 P f.type) = true) (hp : 0 < fs.size) (hv : Value.okWide P w r b0 t v) (h : DataW.Trod enc P w base (fun _ => true) held t v d ps) :
    ∃ a len cap S, v = .slice a len cap ∧ IsRows fs.size w a len cap S ∧ ∀ i j, i < len → j < fs.size → IntKind.i64.has (S i j) := by
  obtain ⟨a0, len0, cap0, rfl⟩ := okWide_slice ht hv
  obtain ⟨fuel, hf⟩ := h
  obtain ⟨a, len, cap, S, hcs, h1, h2⟩ := cells_rows ht he hone hC hi hp hf
  simp [Value.cells] at hcs
  obtain ⟨rfl, rfl, rfl⟩ := hcs
  exact ⟨_, _, _, S, rfl, h1, h2⟩
/-- A struct of one slice of structs of integers that came in, as a value. -/
theorem val_line {r : Reach} {b0 : Nat} {t e : TypeId} {f0 : Field} {fs : Array Field} {v : Value} {d : DataW H} {ps : List MemPlace} (hL : P.underlying t = some (.struct #[f0])) (ho : f0.offset = 0) (hc0 : P.cellsOf f0.type = 1) (hct : P.cellsOf t = 1)
    (ht : P.underlying f0.type = some (.slice e)) (he : P.underlying e = some (.struct fs)) (hone : oneCellFields P fs = true) (hC : P.cellsOf e = fs.size)
    (hi : fs.all (fun f => isI64 P f.type) = true) (hp : 0 < fs.size) (hv : Value.okWide P w r b0 t v) (h : DataW.Trod enc P w base (fun _ => true) held t v d ps) :
    ∃ a len cap S, v = .agg #[.slice a len cap] ∧ IsRows fs.size w a len cap S ∧ ∀ i j, i < len → j < fs.size → IntKind.i64.has (S i j) := by
  obtain ⟨cs, rfl, hsz⟩ := okWide_struct hL hv
  obtain ⟨fuel, hf⟩ := h
  obtain ⟨⟨y1, y2⟩, n, _, hl, hf0⟩ := trod_struct1 hL hf
  rw [ho, hc0, List.drop_zero] at hf0
  have hcs : (Value.agg cs).cells.toList = cs.toList := by simp [Value.cells]
  rw [hcs] at hf0
  have hlen : cs.toList.length = 1 := by simpa using hsz.trans hct
  rw [List.take_of_length_le (by omega)] at hf0
  obtain ⟨a, len, cap, S, hcs', h1, h2⟩ := cells_rows ht he hone hC hi hp hf0
  refine ⟨a, len, cap, S, ?_, h1, h2⟩
  congr 1
  exact Array.toList_inj.1 hcs'
end
end Go.Proofs.Ytfjilbjofaommaa
