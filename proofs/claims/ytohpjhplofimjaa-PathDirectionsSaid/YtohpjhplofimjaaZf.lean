/-
  What the run of closed code says of the machine: the rest of the operations that do not look at memory. No program.
-/
import Derived.Test.YtohpjhplofimjaaZe
set_option linter.unusedSimpArgs false
set_option linter.unusedVariables false
set_option linter.unusedSectionVars false
namespace Go.Rx
open Go
variable {P : Program} {R : Ren} {N : Nat} {T : Tr LV} {a : Act}

/-! ### Aggregates -/
theorem foldl_put (off : Nat) : ∀ (vs : List Value) (k : Nat) (cells : Array Value), off + k + vs.length ≤ cells.size →
    ((vs.zipIdx k).foldl (fun cs (p : Value × Nat) => cs.setIfInBounds (off + p.2) p.1) cells).toList = cells.toList.take (off + k) ++ vs ++ cells.toList.drop (off + k + vs.length)
  | [], k, cells, h => by simp
  | v :: vs, k, cells, h => by
    simp only [List.length_cons] at h
    rw [List.zipIdx_cons, List.foldl_cons, foldl_put off vs (k + 1) _ (by simp; omega)]
    simp only [Array.toList_setIfInBounds, List.length_cons]
    apply List.ext_getElem?
    intro i
    have hlen : cells.toList.length = cells.size := by simp
    simp only [List.append_assoc, List.getElem?_append, List.length_take, List.length_set, List.getElem?_take, List.getElem?_drop, List.getElem?_set, hlen]
    by_cases h1 : i < off + k
    · have e1 : min (off + (k + 1)) cells.size = off + (k + 1) := by omega
      have e2 : min (off + k) cells.size = off + k := by omega
      have : i < off + (k + 1) := by omega
      have : ¬ off + k = i := by omega
      simp [*]
    · have e1 : min (off + (k + 1)) cells.size = off + (k + 1) := by omega
      have e2 : min (off + k) cells.size = off + k := by omega
      by_cases h2 : i = off + k
      · subst h2
        have : off + k < cells.size := by omega
        simp [e1, e2, this]
      · have h3 : ¬ i < off + (k + 1) := by omega
        have h4 : i - (off + k) = (i - (off + (k + 1))) + 1 := by omega
        rw [e1, e2, if_neg h3, if_neg h1, h4]
        by_cases h5 : i - (off + (k + 1)) < vs.length
        · rw [if_pos h5]
          simp [h5]
        · rw [if_neg h5]
          have h6 : ¬ (i - (off + (k + 1)) + 1 < (v :: vs).length) := by simp; omega
          rw [List.getElem?_cons_succ]
          simp [h5]
          have h7 : ¬ (off + k = off + (k + 1) + vs.length + (i - (off + (k + 1)) - vs.length)) := by omega
          simp [h7]
          congr 1
          omega
theorem fill_ok {place : Nat → Option (Nat × Nat)} : ∀ {l : List (Nat × LV)} {l' : List (Nat × Value)} {cs r : List LV} {cells : Array Value}, fill place cs l = some r → PL R l l' → VRL R cs cells.toList →
    ∃ out, Instr.fill place cells l' = some out ∧ VRL R r out.toList
  | [], l', cs, r, cells, h, hl, hc => by
    simp [fill] at h; subst h
    rw [show l' = [] from hl]
    exact ⟨cells, rfl, hc⟩
  | (i, x) :: l, l', cs, r, cells, h, hl, hc => by
    obtain ⟨y, t, rfl, hx, ht⟩ := hl
    simp only [fill] at h
    cases hp : place i with
    | none => simp [hp] at h
    | some q =>
      obtain ⟨off, n⟩ := q
      simp only [hp] at h
      cases hb : Nat.beq x.cells.length n
      · simp [hb] at h
      · simp only [hb, cond_true] at h
        have hn : x.cells.length = n := (beq_iff _ _).1 hb
        cases hq : pt off cs x.cells with
        | none => simp [hq] at h
        | some cs' =>
          simp only [hq] at h
          have hcx := hx.cells
          obtain ⟨hv, hle⟩ := VRL.pt hq hc hcx
          have hsz : y.cells.size = n := by rw [← hn, ← hcx.length]; simp
          have hfold := foldl_put off y.cells.toList 0 cells (by simp at hle ⊢; omega)
          have hput : VRL R cs' (y.cells.zipIdx.foldl (fun cs (c, j) => cs.setIfInBounds (off + j) c) cells).toList := by
            have e : (y.cells.zipIdx.foldl (fun cs (c, j) => cs.setIfInBounds (off + j) c) cells).toList = ((y.cells.toList.zipIdx 0).foldl (fun cs (p : Value × Nat) => cs.setIfInBounds (off + p.2) p.1) cells).toList := by
              rw [← Array.foldl_toList, Array.toList_zipIdx]
            rw [e, hfold]
            simpa using hv
          obtain ⟨out, ho, hr⟩ := fill_ok h ht hput
          refine ⟨out, ?_, hr⟩
          simp only [Instr.fill, hp]
          rw [if_neg (by simp at hle ⊢; omega)]
          exact ho
theorem mapM_places {fs : List Field} {pl : List (Nat × Nat)} (h : places P fs = some pl) (w : World) :
    (fs.mapM fun f => (do pure (f.offset, ← sizeOf f.type) : Sem (Nat × Nat))).run P w = .ok pl w := by
  induction fs generalizing pl with
  | nil => simp [places] at h; subst h; rfl
  | cons f fs ih =>
    simp only [places] at h
    cases hs : szOf P f.type with
    | none => simp [hs] at h
    | some n =>
      cases hr : places P fs with
      | none => simp [hs, hr] at h
      | some m =>
        simp only [hs, hr, Option.some.injEq] at h; subst h
        simp only [List.mapM_cons, Sem.run_bind, run_sizeOf' hs, Result.andThen_ok, Sem.run_pure, ih hr]
theorem buildAt_ok {t : TypeId} {z r : List LV} {zv : Value} {l : List (Nat × LV)} {l' : Array (Nat × Value)} (h : buildAt P t z l = some r) (hz : VRL R z zv.cells.toList) (hzr : ∀ w, (zeroValue t).run P w = .ok zv w) (hl : PL R l l'.toList) :
    ∃ v, VR R (.agg r) v ∧ ∀ w, (Instr.build t l').run P w = .ok v w := by
  unfold buildAt at h
  cases hu : P.underlying t with
  | none => simp [hu] at h
  | some d =>
    cases d <;> simp only [hu] at h <;> try cases h
    case struct fs =>
      cases hp : places P fs.toList with
      | none => simp [hp] at h
      | some pl =>
        simp only [hp] at h
        obtain ⟨out, ho, hr⟩ := fill_ok h hl hz
        refine ⟨.agg out, ⟨out, rfl, hr⟩, fun w => ?_⟩
        have hm := mapM_places hp
        simp only [Instr.build, Sem.run_bind, hzr, Result.andThen_ok, run_underlying hu, Array.mapM_eq_mapM_toList, Sem.run_map, hm]
        have e : (fun (i : Nat) => pl.toArray[i]?) = (fun (i : Nat) => pl[i]?) := by funext i; simp
        simp only [e, ho]
        rfl
    case array n e =>
      cases hs : szOf P e with
      | none => simp [hs] at h
      | some k =>
        simp only [hs] at h
        obtain ⟨out, ho, hr⟩ := fill_ok h hl hz
        refine ⟨.agg out, ⟨out, rfl, hr⟩, fun w => ?_⟩
        simp only [Instr.build, Sem.run_bind, hzr, Result.andThen_ok, run_underlying hu, run_sizeOf' hs, ho]
        rfl

/-! ### Indices and bounds -/
theorem idx_ok {lv : LV} {v : Value} {len n : Nat} (h : idx lv len = some n) (hv : VR R lv v) : ∃ k, v = .int k (n : Int) ∧ n < len := by
  unfold idx at h
  split at h
  · rename_i k m
    cases hb : Nat.blt m len
    · simp [hb] at h
    · simp [hb] at h; subst h
      exact ⟨k, hv, by simpa using hb⟩
  · cases h
theorem bnd_ok {lv : LV} {v : Value} {y n : Nat} (h : bnd lv y = some n) (hv : VR R lv v) : n ≤ y ∧ ∀ (code : BoundsCode) (y' : Nat) (w : World), y ≤ y' → (Instr.sliceBound v y' code).run P w = .ok n w := by
  unfold bnd at h
  split at h
  · rename_i k m
    cases hb : Nat.ble m y
    · simp [hb] at h
    · simp [hb, nN_eq] at h; subst h
      have hle : m ≤ y := by simpa using hb
      refine ⟨hle, fun code y' w hy => ?_⟩
      rw [show v = .int k (m : Int) from hv]
      have h0 : (0 : Int) ≤ (m : Int) := by omega
      have h1 : (m : Int) ≤ (y' : Int) := by omega
      simp [Instr.sliceBound, asIntOf, h0, h1]
  · cases h
/-- The bounds of a slice expression whose capacity may be greater than what is known of it. -/
theorem bnds_ok (hF : FR R N T a.tmps) {isS : Bool} {len cap : Nat} {lo hi mx : Option Operand} {l h m : Nat} (hb : bnds T len cap lo hi mx = some (l, h, m)) (hlc : len ≤ cap) :
    l ≤ h ∧ h ≤ m ∧ m ≤ cap ∧ (mx = none → m = cap) ∧ ∀ cap' w, cap ≤ cap' → (Instr.sliceBounds isS len cap' (lo.map a.eval) (hi.map a.eval) (mx.map a.eval)).run P w = .ok (l, h, if mx.isNone then cap' else m) w := by
  unfold bnds at hb
  cases mx with
  | none =>
    simp only at hb
    cases hi with
    | none =>
      simp only at hb
      cases lo with
      | none =>
        simp at hb
        obtain ⟨rfl, rfl, rfl⟩ := hb
        exact ⟨Nat.zero_le _, hlc, Nat.le_refl _, fun _ => rfl, fun cap' w _ => by simp [Instr.sliceBounds]⟩
      | some x =>
        simp only at hb
        cases hx : evO T x with
        | none => simp [hx] at hb
        | some v =>
          simp only [hx] at hb
          cases hy : bnd v len with
          | none => simp [hy] at hb
          | some n =>
            simp [hy] at hb
            obtain ⟨rfl, rfl, rfl⟩ := hb
            obtain ⟨h1, h2⟩ := bnd_ok (P := P) hy (evO_ok hF hx)
            exact ⟨h1, hlc, Nat.le_refl _, fun _ => rfl, fun cap' w _ => by simp [Instr.sliceBounds, h2 _ _ _ (Nat.le_refl _)]⟩
    | some y =>
      simp only at hb
      cases hy : evO T y with
      | none => simp [hy] at hb
      | some vy =>
        simp only [hy] at hb
        cases hh : bnd vy cap with
        | none => simp [hh] at hb
        | some n =>
          simp only [hh] at hb
          obtain ⟨h3, h4⟩ := bnd_ok (P := P) hh (evO_ok hF hy)
          cases lo with
          | none =>
            simp at hb
            obtain ⟨rfl, rfl, rfl⟩ := hb
            exact ⟨Nat.zero_le _, h3, Nat.le_refl _, fun _ => rfl, fun cap' w hc => by simp [Instr.sliceBounds, h4 _ _ _ hc]⟩
          | some x =>
            simp only at hb
            cases hx : evO T x with
            | none => simp [hx] at hb
            | some v =>
              simp only [hx] at hb
              cases hl : bnd v n with
              | none => simp [hl] at hb
              | some k =>
                simp [hl] at hb
                obtain ⟨rfl, rfl, rfl⟩ := hb
                obtain ⟨h1, h2⟩ := bnd_ok (P := P) hl (evO_ok hF hx)
                exact ⟨h1, h3, Nat.le_refl _, fun _ => rfl, fun cap' w hc => by simp [Instr.sliceBounds, h4 _ _ _ hc, h2 _ _ _ (Nat.le_refl _)]⟩
  | some z =>
    simp only at hb
    cases hz : evO T z with
    | none => simp [hz] at hb
    | some vz =>
      simp only [hz] at hb
      cases hm : bnd vz cap with
      | none => simp [hm] at hb
      | some m' =>
        simp only [hm] at hb
        obtain ⟨h5, h6⟩ := bnd_ok (P := P) hm (evO_ok hF hz)
        cases hi with
        | none => simp at hb
        | some y =>
          simp only at hb
          cases hy : evO T y with
          | none => simp [hy] at hb
          | some vy =>
            simp only [hy] at hb
            cases hh : bnd vy m' with
            | none => simp [hh] at hb
            | some n =>
              simp only [hh] at hb
              obtain ⟨h3, h4⟩ := bnd_ok (P := P) hh (evO_ok hF hy)
              cases lo with
              | none =>
                simp at hb
                obtain ⟨rfl, rfl, rfl⟩ := hb
                exact ⟨Nat.zero_le _, h3, h5, (fun h => by cases h), fun cap' w hc => by simp [Instr.sliceBounds, h6 _ _ _ hc, h4 _ _ _ (Nat.le_refl _)]⟩
              | some x =>
                simp only at hb
                cases hx : evO T x with
                | none => simp [hx] at hb
                | some v =>
                  simp only [hx] at hb
                  cases hl : bnd v n with
                  | none => simp [hl] at hb
                  | some k =>
                    simp [hl] at hb
                    obtain ⟨rfl, rfl, rfl⟩ := hb
                    obtain ⟨h1, h2⟩ := bnd_ok (P := P) hl (evO_ok hF hx)
                    exact ⟨h1, h3, h5, (fun h => by cases h), fun cap' w hc => by simp [Instr.sliceBounds, h6 _ _ _ hc, h4 _ _ _ (Nat.le_refl _), h2 _ _ _ (Nat.le_refl _)]⟩
theorem add_eq (b o n : Nat) : (⟨b, o, none⟩ : Addr).add n = ⟨b, o + n, none⟩ := by
  unfold Addr.add; split <;> simp_all
end Go.Rx
