/-
  An argument that is a slice of structs of integers and truth values, as a list of the symbolic run. No program.
  An argument that is a slice of structs of integers and truth values, opened. No program.
-/
import Derived.Test.YtfjilbjofaommaaLn
import Derived.Test.YtfjilbjofaommaaYn
set_option linter.unusedSimpArgs false
set_option linter.unusedVariables false
set_option linter.unusedSectionVars false
namespace Go.Rx
open Go Go.ChangeShapes Go.WideShapes Go.RowKit Go.Deep
def cellV : CK → Int → Value
  | .int k, n => .int k n
  | .bool, n => .bool (decide (n ≠ 0))
def okCK : CK → Int → Prop
  | .int k, n => k.has n
  | .bool, _ => True
theorem vr_cell {R : Ren} (k : CK) (n : Int) : VR R (cellLV k n) (cellV k n) := by cases k <;> rfl
def tabL (len k : Nat) (S : Nat → Nat → Int) : Ll := (List.range len).map fun i => (List.range k).map fun j => S i j
theorem tabL_len {len k : Nat} {S : Nat → Nat → Int} : (tabL len k S).length = len := by simp [tabL]
theorem tabL_rows {len k : Nat} {S : Nat → Nat → Int} : ∀ x ∈ tabL len k S, x.length = k := by
  intro x hx
  simp [tabL] at hx
  obtain ⟨i, _, rfl⟩ := hx
  simp
theorem tabL_get {len k : Nat} {S : Nat → Nat → Int} {i j : Nat} (hi : i < len) (hj : j < k) : (tabL len k S).get i j = S i j := by
  simp [Ll.get, tabL, List.getD, List.getElem?_map, List.getElem?_range hi, List.getElem?_range hj]
/-- A slice that came in, as a list of rows of cells. -/
structure SlArg (w : World) (ks : List CK) (v : Value) (h : Ll) : Prop where
  rows : ∀ x ∈ h, x.length = ks.length
  has : ∀ (i j : Nat) (k : CK), i < h.length → ks[j]? = some k → okCK k (h.get i j)
  len : (h.length : Int) ≤ 9223372036854775807
  at_ : (v = .slice none 0 0 ∧ h = []) ∨ ∃ b off cap, v = .slice (some ⟨b, off, none⟩) h.length cap ∧ b < w.heap.size ∧ h.length ≤ cap ∧ ∀ (i j : Nat) (k : CK), i < h.length → ks[j]? = some k → w.cell? ⟨b, off + i * ks.length + j, none⟩ = some (cellV k (h.get i j))
/-- What can be read of a block: a tuple stands for a cell that is no number and no truth value. -/
def roOf (w : World) (b : Nat) : List LV := match w.heap[b]? with
  | some (.cells c _ _) => c.toList.map fun v => match v with | .int k n => .i k n | .bool x => .b x | _ => .tup []
  | _ => []
theorem roOf_get {R : Ren} {w : World} {b p : Nat} {lv : LV} (h : (roOf w b)[p]? = some lv) (hk : lv.kn = true) : ∃ v, w.cell? ⟨b, 0 + p, none⟩ = some v ∧ VR R lv v := by
  rw [Nat.zero_add]
  unfold roOf at h
  split at h
  · rename_i c e z hb
    rw [List.getElem?_map] at h
    cases hc : c.toList[p]? with
    | none => rw [hc] at h; cases h
    | some v =>
      rw [hc] at h
      have hcell : w.cell? ⟨b, p, none⟩ = some v := by
        unfold World.cell?
        simp only [hb]
        rw [Array.getElem?_toList] at hc
        exact hc
      refine ⟨v, hcell, ?_⟩
      simp only [Option.map_some, Option.some.injEq] at h
      cases v <;> subst h <;> first | rfl | (simp [LV.kn] at hk)
  · simp at h
theorem roOf_at {w : World} {b p : Nat} {k : CK} {n : Int} (h : w.cell? ⟨b, p, none⟩ = some (cellV k n)) : (roOf w b)[p]? = some (cellLV k n) := by
  unfold World.cell? at h
  unfold roOf
  split at h
  · rename_i c e z hb
    have hb' : w.heap[b]? = some (.cells c e z) := hb
    rw [hb']
    have h' : c[p]? = some (cellV k n) := by simpa using h
    simp only [List.getElem?_map, Array.getElem?_toList]
    rw [h']
    cases k <;> rfl
  · cases h
/-- Names below n stand for blocks that can be read. -/
structure RoInv (w : World) (n : Nat) (R : Ren) (H : Hp) : Prop where
  at_ : ∀ id o, H.get id = some o → id < n ∧ ∃ b, R id = some (b, 0) ∧ o = .ro 0 (roOf w b) ∧ b < w.heap.size
  inj : ∀ id id' o o' b c c', H.get id = some o → H.get id' = some o' → R id = some (b, c) → R id' = some (b, c') → id = id'
  out : ∀ id, n ≤ id → R id = none
theorem RoInv.rel {w : World} {n : Nat} {R : Ren} {H : Hp} (h : RoInv w n R H) : Rel R H w :=
  ⟨fun id o ho => by
    obtain ⟨_, b, h1, rfl, h2⟩ := h.at_ id o ho
    exact ⟨b, 0, h1, h2, fun i lv hi hk => roOf_get hi hk⟩, h.inj⟩
theorem IsL.wider {H H' : Hp} {nx nx' : Nat} {ks : List CK} {h : Ll} {lv : LV} (hl : IsL H nx ks h lv) (hH : ∀ id o, H.get id = some o → H'.get id = some o) (hn : nx ≤ nx') : IsL H' nx' ks h lv :=
  ⟨hl.rows, hl.at_.imp_right fun ⟨r, o, a, b, d⟩ => ⟨r, o, by omega, b.imp_right fun ⟨lo, b, c⟩ => ⟨lo, hH _ _ b, c⟩, d⟩⟩
/-- One more list. -/
theorem list_add {w : World} {n : Nat} {R : Ren} {H : Hp} (hI : RoInv w n R H) {ks : List CK} {v : Value} {h : Ll} (hs : SlArg w ks v h) :
    ∃ (R' : Ren) (H' : Hp) (lv : LV), RoInv w (n + 1) R' H' ∧ Le R R' ∧ (∀ id o, H.get id = some o → H'.get id = some o) ∧ VR R' lv v ∧ IsL H' (n + 1) ks h lv := by
  have grow : RoInv w (n + 1) R H := ⟨fun id o ho => by obtain ⟨a, b⟩ := hI.at_ id o ho; exact ⟨by omega, b⟩, hI.inj, fun id hid => hI.out id (by omega)⟩
  rcases hs.at_ with ⟨rfl, rfl⟩ | ⟨b, off, cap, rfl, hb, hc, hcell⟩
  · exact ⟨R, H, .nils, grow, Le.refl R, fun _ _ h => h, rfl, ⟨by simp, .inl ⟨rfl, rfl⟩⟩⟩
  · have hok : cellsOK (roOf w b) (off - 0) ks h := fun i j k hi hj => roOf_at (hcell i j k hi hj)
    by_cases hex : ∃ id o c, H.get id = some o ∧ R id = some (b, c)
    · obtain ⟨id, o, c, h1, h2⟩ := hex
      obtain ⟨a1, b', a2, rfl, a3⟩ := hI.at_ id o h1
      rw [h2] at a2; cases a2
      exact ⟨R, H, .sl id off h.length cap, grow, Le.refl R, fun _ _ h => h, ⟨b, 0, h2, rfl⟩, ⟨hs.rows, .inr ⟨id, off, by omega, .inr ⟨_, h1, .inr ⟨0, _, rfl, Nat.zero_le _, hok⟩⟩, .inr ⟨cap, hc, rfl⟩⟩⟩⟩
    · have hn : H.get n = none := by
        cases hg : H.get n with
        | none => rfl
        | some o => have := (hI.at_ n o hg).1; omega
      have hg : ∀ id o, (H.set n (some (.ro 0 (roOf w b)))).get id = some o → (id = n ∧ o = .ro 0 (roOf w b)) ∨ (id ≠ n ∧ H.get id = some o) := by
        intro id o ho
        by_cases e : id = n
        · subst e; rw [Tr.get_set_same] at ho; cases ho; exact .inl ⟨rfl, rfl⟩
        · rw [Tr.get_set_ne _ _ e] at ho; exact .inr ⟨e, ho⟩
      refine ⟨upd R n (b, 0), H.set n (some (.ro 0 (roOf w b))), .sl n off h.length cap, ⟨fun id o ho => ?_, fun id id' o o' b' c c' g1 g2 r1 r2 => ?_, fun id hid => ?_⟩, le_upd (hI.out n (Nat.le_refl _)), fun id o ho => ?_, ⟨b, 0, upd_same .., rfl⟩, ⟨hs.rows, .inr ⟨n, off, Nat.lt_succ_self _, .inr ⟨_, Tr.get_set_same .., .inr ⟨0, _, rfl, Nat.zero_le _, hok⟩⟩, .inr ⟨cap, hc, rfl⟩⟩⟩⟩
      · rcases hg id o ho with ⟨rfl, rfl⟩ | ⟨e, g⟩
        · exact ⟨Nat.lt_succ_self _, b, upd_same .., rfl, hb⟩
        · obtain ⟨a1, b', a2, a3⟩ := hI.at_ id o g
          exact ⟨by omega, b', by rw [upd_ne R _ e]; exact a2, a3⟩
      · rcases hg id o g1 with ⟨rfl, rfl⟩ | ⟨e, g⟩
        · rcases hg id' o' g2 with ⟨rfl, rfl⟩ | ⟨e', g'⟩
          · rfl
          · rw [upd_same] at r1; cases r1
            rw [upd_ne R _ e'] at r2
            exact absurd ⟨id', o', c', g', r2⟩ hex
        · rw [upd_ne R _ e] at r1
          rcases hg id' o' g2 with ⟨rfl, rfl⟩ | ⟨e', g'⟩
          · rw [upd_same] at r2; cases r2
            exact absurd ⟨id, o, c, g, r1⟩ hex
          · rw [upd_ne R _ e'] at r2
            exact hI.inj id id' o o' b' c c' g g' r1 r2
      · rw [upd_ne R _ (by omega)]; exact hI.out id (by omega)
      · by_cases e : id = n
        · subst e; rw [hn] at ho; cases ho
        · rw [Tr.get_set_ne _ _ e]; exact ho
theorem lists_go {w : World} : ∀ (l : List (Value × List CK × Ll)) (n : Nat) (R : Ren) (H : Hp), RoInv w n R H → (∀ x ∈ l, SlArg w x.2.1 x.1 x.2.2) →
    ∃ (R' : Ren) (H' : Hp) (lvs : List LV), RoInv w (n + l.length) R' H' ∧ Le R R' ∧ (∀ id o, H.get id = some o → H'.get id = some o) ∧ lvs.length = l.length ∧ ∀ (i : Nat) (x : Value × List CK × Ll) (lv : LV), l[i]? = some x → lvs[i]? = some lv → VR R' lv x.1 ∧ IsL H' (n + l.length) x.2.1 x.2.2 lv
  | [], n, R, H, hI, _ => ⟨R, H, [], hI, Le.refl R, fun _ _ h => h, rfl, fun i x lv h => by simp at h⟩
  | y :: l, n, R, H, hI, hs => by
    obtain ⟨R1, H1, lv0, i1, le1, k1, v1, l1⟩ := list_add hI (hs y (by simp))
    obtain ⟨R2, H2, lvs, i2, le2, k2, n2, g2⟩ := lists_go l (n + 1) R1 H1 i1 fun x hx => hs x (by simp [hx])
    have e : n + 1 + l.length = n + (y :: l).length := by simp; omega
    rw [e] at i2 g2
    refine ⟨R2, H2, lv0 :: lvs, i2, le1.trans le2, fun id o h => k2 id o (k1 id o h), by simp [n2], fun i x lv hx hl => ?_⟩
    cases i with
    | zero =>
      simp at hx hl; subst hx hl
      exact ⟨v1.mono le2, l1.wider k2 (by simp)⟩
    | succ i => exact g2 i x lv (by simpa using hx) (by simpa using hl)
/-- The lists that came in. -/
theorem lists_in {w : World} {l : List (Value × List CK × Ll)} (hs : ∀ x ∈ l, SlArg w x.2.1 x.1 x.2.2) :
    ∃ (R : Ren) (H : Hp) (lvs : List LV), Rel R H w ∧ (∀ id, l.length ≤ id → R id = none) ∧ lvs.length = l.length ∧ ∀ (i : Nat) (x : Value × List CK × Ll) (lv : LV), l[i]? = some x → lvs[i]? = some lv → VR R lv x.1 ∧ IsL H l.length x.2.1 x.2.2 lv := by
  obtain ⟨R, H, lvs, h1, _, _, h4, h5⟩ := lists_go l 0 (fun _ => none) .l ⟨fun id o h => by simp [Tr.get_l] at h, fun id id' o o' b c c' h => by simp [Tr.get_l] at h, fun _ _ => rfl⟩ hs
  rw [Nat.zero_add] at h1 h5
  exact ⟨R, H, lvs, h1.rel, h1.out, h4, h5⟩
end Go.Rx

set_option linter.unusedSimpArgs false
set_option linter.unusedVariables false
set_option linter.unusedSectionVars false
namespace Go.Rx
open Go Go.ChangeShapes Go.WideShapes Go.RowKit Go.Deep Go.Proofs.Ytfjilbjofaommaa
theorem slArg_of {w : World} {a : Addr} {len cap : Nat} {ks : List CK} (hl : len ≤ cap) (hm : cap ≤ maxLen) (hs : a.spot = none) (hb : a.block < w.heap.size)
    (hcell : ∀ (i j : Nat) (k : CK), i < len → ks[j]? = some k → ∃ n, w.cell? (a.add (i * ks.length + j)) = some (cellV k n) ∧ okCK k n) : ∃ h : Ll, h.length = len ∧ SlArg w ks (.slice (some a) len cap) h := by
  obtain ⟨b, off, spot⟩ := a
  simp only at hs hb
  subst hs
  have hx : ∀ i j, i < len → j < ks.length → ∃ n : Int, ∀ k, ks[j]? = some k → w.cell? ⟨b, off + i * ks.length + j, none⟩ = some (cellV k n) ∧ okCK k n := by
    intro i j hi hj
    have hk := List.getElem?_eq_getElem hj
    obtain ⟨n, h1, h2⟩ := hcell i j _ hi hk
    rw [add_flat, ← Nat.add_assoc] at h1
    refine ⟨n, fun k hk' => ?_⟩
    rw [hk] at hk'
    cases hk'
    exact ⟨h1, h2⟩
  let S : Nat → Nat → Int := fun i j => if h : i < len ∧ j < ks.length then (hx i j h.1 h.2).choose else 0
  have hS : ∀ i j k, i < len → ks[j]? = some k → w.cell? ⟨b, off + i * ks.length + j, none⟩ = some (cellV k (S i j)) ∧ okCK k (S i j) := by
    intro i j k hi hk
    have hj : j < ks.length := (List.getElem?_eq_some_iff.1 hk).1
    show w.cell? ⟨b, off + i * ks.length + j, none⟩ = some (cellV k (if h : i < len ∧ j < ks.length then (hx i j h.1 h.2).choose else 0)) ∧ okCK k (if h : i < len ∧ j < ks.length then (hx i j h.1 h.2).choose else 0)
    rw [dif_pos ⟨hi, hj⟩]
    exact (hx i j hi hj).choose_spec k hk
  have hmx : maxLen ≤ 9223372036854775807 := by decide
  refine ⟨tabL len ks.length S, tabL_len, tabL_rows, fun i j k hi hk => ?_, ?_, .inr ⟨b, off, cap, ?_, hb, ?_, fun i j k hi hk => ?_⟩⟩
  · rw [tabL_len] at hi
    rw [tabL_get hi (List.getElem?_eq_some_iff.1 hk).1]
    exact (hS i j k hi hk).2
  · rw [tabL_len]; omega
  · rw [tabL_len]
  · rw [tabL_len]; exact hl
  · rw [tabL_len] at hi
    rw [tabL_get hi (List.getElem?_eq_some_iff.1 hk).1]
    exact (hS i j k hi hk).1
theorem shape_lt {w : World} {b : Nat} {x : TypeId × Nat} (h : w.shape? b = some x) : b < w.heap.size := by
  unfold World.shape? at h
  by_cases hb : b < w.heap.size
  · exact hb
  · rw [Array.getElem?_eq_none (by omega)] at h; cases h
section
variable {H : Type} {enc : TypeId × Value → H} {P : Program} {w : World} {base : Nat} {held : Bool}
theorem kindsOf_get {l : List Field} {ks : List CK} (h : kindsOf P l = some ks) : l.length = ks.length ∧ ∀ (j : Nat) (f : Field), l[j]? = some f → ∃ k, ks[j]? = some k ∧ kindOf P f.type = some k := by
  induction l generalizing ks with
  | nil => simp [kindsOf] at h; subst h; exact ⟨rfl, fun j f h => by simp at h⟩
  | cons f l ih =>
    simp only [kindsOf] at h
    split at h
    · rename_i k hk
      split at h
      · rename_i r hr
        cases h
        obtain ⟨h1, h2⟩ := ih hr
        refine ⟨by simp [h1], fun j g hg => ?_⟩
        cases j with
        | zero => simp at hg; subst hg; exact ⟨k, rfl, hk⟩
        | succ j => exact h2 j g (by simpa using hg)
      · cases h
    · cases h
theorem kind_cell {t : TypeId} {k : CK} {v : Value} {fuel : Nat} {y : DataW H × List MemPlace} (hk : kindOf P t = some k) (h : DataW.trod enc P w base (fun _ => true) held fuel t [v] = some y) : ∃ n, v = cellV k n ∧ okCK k n := by
  unfold kindOf at hk
  split at hk
  · rename_i q hq
    cases hk
    obtain ⟨z, hz, -, hw⟩ := DataW.trod_int hq h
    obtain rfl : v = .int q z := by simpa using hz
    refine ⟨z, rfl, ?_⟩
    simp only [Lit.wf, Bool.and_eq_true, decide_eq_true_eq] at hw
    exact hw
  · rename_i hq
    cases hk
    obtain ⟨x, hz, -⟩ := DataW.trod_bool hq h
    obtain rfl : v = .bool x := by simpa using hz
    refine ⟨if x then 1 else 0, ?_, trivial⟩
    cases x <;> rfl
  · cases hk
/-- A slice of structs of one-cell fields that came in. -/
theorem val_list {r : Reach} {b0 : Nat} {t e : TypeId} {fs : Array Field} {ks : List CK} {v : Value} {d : DataW H} {ps : List MemPlace} (ht : P.underlying t = some (.slice e)) (he : P.underlying e = some (.struct fs)) (hone : oneCellFields P fs = true) (hC : P.cellsOf e = fs.size)
    (hk : kindsOf P fs.toList = some ks) (hv : Value.okWide P w r b0 t v) (h : DataW.Trod enc P w base (fun _ => true) held t v d ps) : ∃ l : Ll, SlArg w ks v l := by
  obtain ⟨a0, len0, cap0, rfl⟩ := okWide_slice ht hv
  obtain ⟨fuel, hf⟩ := h
  rcases open_slice_fields ht he hone hC hf with ⟨hcs, _⟩ | ⟨a, len, cap, m, hcs, hl, hm, hmm, hat⟩
  · simp [Value.cells] at hcs
    obtain ⟨rfl, rfl, rfl⟩ := hcs
    exact ⟨[], by simp, by simp, by simp, .inl ⟨rfl, rfl⟩⟩
  · simp [Value.cells] at hcs
    obtain ⟨rfl, rfl, rfl⟩ := hcs
    have hcap : m = cap0 := by simpa using hmm
    have hw : a.spot = none ∧ a.block < w.heap.size := by
      simp only [Value.okWide, ht, Cell.okWide, Cell.ok] at hv
      obtain ⟨-, -, -, h2, row, cells, h3, -⟩ := hv
      exact ⟨h2, shape_lt h3⟩
    obtain ⟨kl, kg⟩ := kindsOf_get hk
    obtain ⟨l, -, hl2⟩ := slArg_of (ks := ks) hl hm hw.1 hw.2 fun i j k hi hj => by
      have hjl : j < fs.size := by have := (List.getElem?_eq_some_iff.1 hj).1; simpa [← kl] using this
      obtain ⟨n, u, y, hc, ht'⟩ := hat i (by omega) j _ (Array.getElem?_eq_getElem hjl)
      obtain ⟨k', hk1, hk2⟩ := kg j _ (by rw [Array.getElem?_toList]; exact Array.getElem?_eq_getElem hjl)
      rw [hj] at hk1
      cases hk1
      obtain ⟨z, rfl, hz⟩ := kind_cell hk2 ht'
      refine ⟨z, ?_, hz⟩
      rw [show ks.length = fs.size by simpa using kl.symm]
      exact hc
    exact ⟨l, hl2⟩
end
end Go.Rx
