/-
  Arguments that are slices of integers, or structs of one slice, as lists of the symbolic run. No program.
-/
import Derived.Test.YtfjilbjofaommaaYp
set_option linter.unusedSimpArgs false
set_option linter.unusedVariables false
set_option linter.unusedSectionVars false
namespace Go.Rx
open Go Go.ChangeShapes Go.WideShapes Go.RowKit Go.Deep Go.Proofs.Ytfjilbjofaommaa
section
variable {H : Type} {enc : TypeId × Value → H} {P : Program} {w : World} {base : Nat} {held : Bool}
theorem slice_spot {r : Reach} {b0 : Nat} {t e : TypeId} {a : Addr} {len cap : Nat} (ht : P.underlying t = some (.slice e)) (hv : Value.okWide P w r b0 t (.slice (some a) len cap)) : a.spot = none ∧ a.block < w.heap.size := by
  simp only [Value.okWide, ht, Cell.okWide, Cell.ok] at hv
  obtain ⟨-, -, -, h2, row, cells, h3, -⟩ := hv
  exact ⟨h2, shape_lt h3⟩
theorem wf_has {n : Int} (h : (Lit.int .i64 n).wf = true) : IntKind.i64.has n := by
  simpa [Lit.wf, IntKind.has] using h
/-- A slice of integers that came in. -/
theorem val_intsL {r : Reach} {b0 : Nat} {t e : TypeId} {v : Value} {d : DataW H} {ps : List MemPlace} (ht : P.underlying t = some (.slice e)) (he : P.underlying e = some (.int .i64))
    (hE : P.cellsOf e = 1) (hv : Value.okWide P w r b0 t v) (h : DataW.Trod enc P w base (fun _ => true) held t v d ps) : ∃ l : Ll, SlArg w [.int .i64] v l := by
  obtain ⟨a0, len0, cap0, rfl⟩ := okWide_slice ht hv
  obtain ⟨fuel, hf⟩ := h
  rcases open_ints ht he hE hf with ⟨hcs, _⟩ | ⟨x, l, c, zs, hcs, _, hl, hm, hz, _, hcell, hwz⟩
  · simp [Value.cells] at hcs
    obtain ⟨rfl, rfl, rfl⟩ := hcs
    exact ⟨[], by simp, by simp, by simp, .inl ⟨rfl, rfl⟩⟩
  · simp [Value.cells] at hcs
    obtain ⟨rfl, rfl, rfl⟩ := hcs
    have hw := slice_spot ht hv
    have hz : zs.length = cap0 := by simpa using hz
    obtain ⟨l, -, hl2⟩ := slArg_of (ks := [.int .i64]) hl hm hw.1 hw.2 fun i j k hi hj => by
      have hj0 : j = 0 := by have := (List.getElem?_eq_some_iff.1 hj).1; simpa using this
      subst hj0
      simp at hj; subst hj
      have hi' : i < zs.length := by omega
      refine ⟨zs.getD i 0, ?_, ?_⟩
      · have := hcell i hi'
        simpa [cellV] using this
      · refine wf_has (hwz _ ?_)
        rw [List.getD_eq_getElem?_getD, List.getElem?_eq_getElem hi']
        exact List.getElem_mem hi'
    exact ⟨l, hl2⟩
/-- A struct of one slice of structs that came in. -/
theorem val_lineL {r : Reach} {b0 : Nat} {t e : TypeId} {f0 : Field} {fs : Array Field} {ks : List CK} {v : Value} {d : DataW H} {ps : List MemPlace} (hL : P.underlying t = some (.struct #[f0])) (ho : f0.offset = 0) (hc0 : P.cellsOf f0.type = 1) (hct : P.cellsOf t = 1) (htt : P.cellTypes P.depth t = some [f0.type])
    (ht : P.underlying f0.type = some (.slice e)) (he : P.underlying e = some (.struct fs)) (hone : oneCellFields P fs = true) (hC : P.cellsOf e = fs.size)
    (hk : kindsOf P fs.toList = some ks) (hv : Value.okWide P w r b0 t v) (h : DataW.Trod enc P w base (fun _ => true) held t v d ps) :
    ∃ (u : Value) (l : Ll), v = .agg #[u] ∧ SlArg w ks u l := by
  have hv2 := hv
  simp only [Value.okWide, hL] at hv2
  obtain ⟨cs, rfl, hsz, ts', hc', _, hall⟩ := hv2
  rw [htt] at hc'; cases hc'
  obtain ⟨fuel, hf⟩ := h
  obtain ⟨⟨y1, y2⟩, n, _, hl, hf0⟩ := trod_struct1 hL hf
  rw [ho, hc0, List.drop_zero] at hf0
  have hcs : (Value.agg cs).cells.toList = cs.toList := by simp [Value.cells]
  rw [hcs] at hf0
  have hlen : cs.toList.length = 1 := by simpa using hsz.trans hct
  rw [List.take_of_length_le (by omega)] at hf0
  obtain ⟨u, hu⟩ : ∃ u, cs.toList = [u] := by
    match cs.toList, hlen with
    | [u], _ => exact ⟨u, rfl⟩
  have hcs' : cs = #[u] := Array.toList_inj.1 hu
  subst hcs'
  obtain ⟨t0, h0, ho'⟩ := hall 0 u (by simp)
  simp at h0; subst h0
  have hvu : Value.okWide P w r b0 f0.type u := by
    simp only [Value.okWide, ht]
    exact ho'
  obtain ⟨a0, len0, cap0, rfl⟩ := okWide_slice ht hvu
  obtain ⟨l, hl⟩ := val_list ht he hone hC hk hvu (show DataW.Trod enc P w base (fun _ => true) held f0.type (.slice a0 len0 cap0) y1 y2 from ⟨n, by simpa [Value.cells] using hf0⟩)
  exact ⟨_, l, rfl, hl⟩
end
theorem len0 {α : Type} {l : List α} (h : l.length = 0) : l = [] := by
  match l, h with
  | [], _ => exact rfl
theorem len1 {α : Type} {l : List α} (h : l.length = 1) : ∃ x0 : α, l = [x0] := by
  match l, h with
  | [x0], _ => exact ⟨_, rfl⟩
theorem len2 {α : Type} {l : List α} (h : l.length = 2) : ∃ x0 x1 : α, l = [x0, x1] := by
  match l, h with
  | [x0, x1], _ => exact ⟨_, _, rfl⟩
theorem len3 {α : Type} {l : List α} (h : l.length = 3) : ∃ x0 x1 x2 : α, l = [x0, x1, x2] := by
  match l, h with
  | [x0, x1, x2], _ => exact ⟨_, _, _, rfl⟩
theorem len4 {α : Type} {l : List α} (h : l.length = 4) : ∃ x0 x1 x2 x3 : α, l = [x0, x1, x2, x3] := by
  match l, h with
  | [x0, x1, x2, x3], _ => exact ⟨_, _, _, _, rfl⟩
theorem len5 {α : Type} {l : List α} (h : l.length = 5) : ∃ x0 x1 x2 x3 x4 : α, l = [x0, x1, x2, x3, x4] := by
  match l, h with
  | [x0, x1, x2, x3, x4], _ => exact ⟨_, _, _, _, _, rfl⟩
end Go.Rx
namespace Go.Proofs.Ytfjilbjofaommaa
theorem list10 {l : List Int} (h : l.length = 10) : ∃ x0 x1 x2 x3 x4 x5 x6 x7 x8 x9 : Int, l = [x0, x1, x2, x3, x4, x5, x6, x7, x8, x9] := by
  match l, h with
  | [x0, x1, x2, x3, x4, x5, x6, x7, x8, x9], _ => exact ⟨_, _, _, _, _, _, _, _, _, _, rfl⟩
theorem list11 {l : List Int} (h : l.length = 11) : ∃ x0 x1 x2 x3 x4 x5 x6 x7 x8 x9 x10 : Int, l = [x0, x1, x2, x3, x4, x5, x6, x7, x8, x9, x10] := by
  match l, h with
  | [x0, x1, x2, x3, x4, x5, x6, x7, x8, x9, x10], _ => exact ⟨_, _, _, _, _, _, _, _, _, _, _, rfl⟩
theorem list12 {l : List Int} (h : l.length = 12) : ∃ x0 x1 x2 x3 x4 x5 x6 x7 x8 x9 x10 x11 : Int, l = [x0, x1, x2, x3, x4, x5, x6, x7, x8, x9, x10, x11] := by
  match l, h with
  | [x0, x1, x2, x3, x4, x5, x6, x7, x8, x9, x10, x11], _ => exact ⟨_, _, _, _, _, _, _, _, _, _, _, _, rfl⟩
end Go.Proofs.Ytfjilbjofaommaa
