/- What the arguments of a law are: integers, structs of integers, slices of integers, opened for a walk. -/
import Derived.Test.YtfjilbjofaommaaRows
import Derived.WalkKit
import Derived.ProofKit
import Derived.OpenShut
import Derived.ChangeOld
import Derived.Below
namespace Go.Proofs.Ytfjilbjofaommaa
open Go.ChangeShapes Go.WideShapes Go.ChangeAt Go.RowKit

theorem own : ownKnob Try.prog.godebug = none := by kernel_rfl
theorem laidOut : laidOutB Try.prog = true := by kernel_rfl

/-- A type is int or int64. -/
def isI64 (P : Program) (u : TypeId) : Bool := match P.underlying u with | some (.int .i64) => true | _ => false
theorem i64_of {P : Program} {u : TypeId} (h : isI64 P u = true) : P.underlying u = some (.int .i64) := by
  unfold isI64 at h
  split at h
  · assumption
  · cases h
theorem cell_int {P : Program} {w : World} {r : Reach} {b : Nat} {t : TypeId} {v : Value} (ht : P.underlying t = some (.int .i64)) (h : Cell.okWide P w r b t v) : ∃ n, v = .int .i64 n ∧ IntKind.i64.has n := by
  simp only [Cell.okWide, ht, Cell.ok] at h
  cases v with
  | int k n =>
    obtain ⟨rfl, h2⟩ := h
    exact ⟨n, rfl, h2⟩
  | _ => exact absurd h (by simp)
/-- A struct of integers that came in, as a value. -/
theorem agg_ints {P : Program} {w : World} {r : Reach} {b : Nat} {t : TypeId} {v : Value} {fs : Array Field} {ts : List TypeId} (hs : P.underlying t = some (.struct fs)) (hc : P.cellTypes P.depth t = some ts) (hC : P.cellsOf t = ts.length)
    (hi : ts.all (isI64 P) = true) (hv : Value.okWide P w r b t v) : ∃ zs : List Int, v = .agg (zs.map (Value.int .i64)).toArray ∧ zs.length = ts.length ∧ ∀ z ∈ zs, IntKind.i64.has z := by
  simp only [Value.okWide, hs] at hv
  obtain ⟨cs, rfl, hsz, ts', hc', _, hall⟩ := hv
  obtain rfl : ts = ts' := by rw [hc] at hc'; exact Option.some.inj hc'
  have hlen : cs.toList.length = ts.length := by simpa using hsz.trans hC
  have hone : ∀ v ∈ cs.toList, ∃ n, v = Value.int .i64 n ∧ IntKind.i64.has n := by
    intro v hv
    obtain ⟨i, hi', he⟩ := List.getElem_of_mem hv
    obtain ⟨u, hu, ho⟩ := hall i v (by simpa using (List.getElem?_eq_some_iff.2 ⟨hi', he⟩))
    exact cell_int (i64_of (List.all_eq_true.1 hi u (List.mem_of_getElem? hu))) ho
  have key : ∀ l : List Value, (∀ v ∈ l, ∃ n, v = Value.int .i64 n ∧ IntKind.i64.has n) → ∃ zs : List Int, l = zs.map (Value.int .i64) ∧ ∀ z ∈ zs, IntKind.i64.has z := by
    intro l
    induction l with
    | nil => exact fun _ => ⟨[], rfl, by simp⟩
    | cons a l ih =>
      intro h
      obtain ⟨n, rfl, hn⟩ := h a (by simp)
      obtain ⟨zs, rfl, hz⟩ := ih (fun v hv => h v (by simp [hv]))
      refine ⟨n :: zs, rfl, fun z hz' => ?_⟩
      rcases List.mem_cons.1 hz' with rfl | hz'
      · exact hn
      · exact hz z hz'
  obtain ⟨zs, hz, hb⟩ := key cs.toList hone
  refine ⟨zs, ?_, ?_, hb⟩
  · rw [← hz]
  · rw [hz] at hlen
    simpa using hlen
theorem has_bd {z : Int} (h : IntKind.i64.has z) : -9223372036854775808 ≤ z ∧ z ≤ 9223372036854775807 := h
theorem val_int {P : Program} {w : World} {r : Reach} {b : Nat} {t : TypeId} {v : Value} (ht : P.underlying t = some (.int .i64)) (h : Value.okWide P w r b t v) : ∃ n, v = .int .i64 n ∧ IntKind.i64.has n := by
  simp only [Value.okWide, ht] at h
  exact cell_int ht h
/-- A slice of integers that came in: nil, or a row of cells. -/
def IsRow (w : World) (a : Option Addr) (len cap : Nat) (zs : List Int) : Prop :=
  (a = none ∧ len = 0 ∧ cap = 0 ∧ zs = []) ∨
  ∃ x, a = some x ∧ len ≤ cap ∧ cap ≤ maxLen ∧ zs.length = cap ∧ (∀ i, i < zs.length → w.cell? (x.add i) = some (.int .i64 (zs.getD i 0))) ∧ ∀ n ∈ zs, (Lit.int .i64 n).wf = true
theorem val_ints {H : Type} {enc : TypeId × Value → H} {P : Program} {w : World} {r : Reach} {b base : Nat} {held : Bool} {t e : TypeId} {v : Value} {d : DataW H} {ps : List MemPlace} (ht : P.underlying t = some (.slice e)) (he : P.underlying e = some (.int .i64))
    (hE : P.cellsOf e = 1) (hv : Value.okWide P w r b t v) (h : DataW.Trod enc P w base (fun _ => true) held t v d ps) : ∃ a len cap zs, v = .slice a len cap ∧ IsRow w a len cap zs := by
  obtain ⟨a0, len0, cap0, rfl⟩ := okWide_slice ht hv
  obtain ⟨fuel, hf⟩ := h
  rcases open_ints ht he hE hf with ⟨hcs, _⟩ | ⟨x, l, c, zs, hcs, _, hl, hm, hz, _, hcell, hwz⟩
  · simp [Value.cells] at hcs
    obtain ⟨rfl, rfl, rfl⟩ := hcs
    exact ⟨_, _, _, [], rfl, .inl ⟨rfl, rfl, rfl, rfl⟩⟩
  · simp [Value.cells] at hcs
    obtain ⟨rfl, rfl, rfl⟩ := hcs
    exact ⟨_, _, _, zs, rfl, .inr ⟨_, rfl, hl, hm, by simpa using hz, hcell, hwz⟩⟩
theorem list1 {l : List Int} (h : l.length = 1) : ∃ x0 : Int, l = [x0] := by
  match l, h with
  | [x0], _ => exact ⟨_, rfl⟩
theorem list2 {l : List Int} (h : l.length = 2) : ∃ x0 x1 : Int, l = [x0, x1] := by
  match l, h with
  | [x0, x1], _ => exact ⟨_, _, rfl⟩
theorem list3 {l : List Int} (h : l.length = 3) : ∃ x0 x1 x2 : Int, l = [x0, x1, x2] := by
  match l, h with
  | [x0, x1, x2], _ => exact ⟨_, _, _, rfl⟩
theorem list4 {l : List Int} (h : l.length = 4) : ∃ x0 x1 x2 x3 : Int, l = [x0, x1, x2, x3] := by
  match l, h with
  | [x0, x1, x2, x3], _ => exact ⟨_, _, _, _, rfl⟩
theorem list5 {l : List Int} (h : l.length = 5) : ∃ x0 x1 x2 x3 x4 : Int, l = [x0, x1, x2, x3, x4] := by
  match l, h with
  | [x0, x1, x2, x3, x4], _ => exact ⟨_, _, _, _, _, rfl⟩
theorem list6 {l : List Int} (h : l.length = 6) : ∃ x0 x1 x2 x3 x4 x5 : Int, l = [x0, x1, x2, x3, x4, x5] := by
  match l, h with
  | [x0, x1, x2, x3, x4, x5], _ => exact ⟨_, _, _, _, _, _, rfl⟩
theorem list7 {l : List Int} (h : l.length = 7) : ∃ x0 x1 x2 x3 x4 x5 x6 : Int, l = [x0, x1, x2, x3, x4, x5, x6] := by
  match l, h with
  | [x0, x1, x2, x3, x4, x5, x6], _ => exact ⟨_, _, _, _, _, _, _, rfl⟩
theorem list8 {l : List Int} (h : l.length = 8) : ∃ x0 x1 x2 x3 x4 x5 x6 x7 : Int, l = [x0, x1, x2, x3, x4, x5, x6, x7] := by
  match l, h with
  | [x0, x1, x2, x3, x4, x5, x6, x7], _ => exact ⟨_, _, _, _, _, _, _, _, rfl⟩
theorem list9 {l : List Int} (h : l.length = 9) : ∃ x0 x1 x2 x3 x4 x5 x6 x7 x8 : Int, l = [x0, x1, x2, x3, x4, x5, x6, x7, x8] := by
  match l, h with
  | [x0, x1, x2, x3, x4, x5, x6, x7, x8], _ => exact ⟨_, _, _, _, _, _, _, _, _, rfl⟩
end Go.Proofs.Ytfjilbjofaommaa
