/-
  What the run of closed code says of the machine: memory. No program.
-/
import Derived.Test.YtohpjhplofimjaaZh
import Derived.Laws.CopyRow
import Derived.Maps.AppendAt
import Derived.OwnWalkIn
set_option linter.unusedSimpArgs false
set_option linter.unusedVariables false
set_option linter.unusedSectionVars false
namespace Go.Rx
open Go
variable {P : Program}

/-- What block b holds, where the run holds an object. -/
def Holds (R : Ren) (w : World) (b c : Nat) : LO → Prop
  | .row t cs => ∃ vs : Array Value, w.heap[b]? = some (.cells vs t (0, 0)) ∧ VRL R cs vs.toList
  | .gro t z cs => ∃ (n : Nat) (xs : List Value), w.ownsRow 0 t z (.slice (some ⟨b, 0, none⟩) n c) n xs ∧ VRL R cs xs
  | .ro base cs => b < w.heap.size ∧ ∀ (i : Nat) (lv : LV), cs[i]? = some lv → ∃ v, w.cell? ⟨b, base + i, none⟩ = some v ∧ VR R lv v
  | .loop st pend N T ps as body d => ∃ (fn : FuncId) (tm : Array Value) (db dc : Nat), w.heap[b]? = some (.loop { state := st, pending := pend, fn, tmps := tm, params := ps, assign := as, body, defers := db }) ∧ R d = some (db, dc) ∧ FR R N T tm
  | .dfr => w.heap[b]? = some (.deferred (some []))
theorem own_block {w : World} {b c n t z : Nat} {xs : List Value} (h : w.ownsRow 0 t z (.slice (some ⟨b, 0, none⟩) n c) n xs) :
    ∃ cur, w.heap[b]? = some (.cells cur t (0, 0)) ∧ n ≤ c ∧ c ≤ maxLen ∧ cur.size = c * z ∧ cur.toList.take (n * z) = xs := by
  rcases h.2 with ⟨h0, _⟩ | ⟨g, cap, cur, hv, _, hg, h1, h2, h3, h4⟩
  · cases h0
  · cases hv
    exact ⟨cur, hg, h1, h2, h3, h4⟩
theorem FR.mono {R R' : Ren} (h : Le R R') {N : Nat} {T : Tr LV} {tm : Array Value} (hF : FR R N T tm) : FR R' N T tm := ⟨hF.size, fun t lv ht => (hF.at_ t lv ht).mono h⟩
theorem Holds.mono {R R' : Ren} (h : Le R R') {w : World} {b c : Nat} {o : LO} (ho : Holds R w b c o) : Holds R' w b c o := by
  cases o with
  | row t cs => obtain ⟨vs, h1, h2⟩ := ho; exact ⟨vs, h1, h2.mono h⟩
  | gro t z cs => obtain ⟨n, xs, h1, h2⟩ := ho; exact ⟨n, xs, h1, h2.mono h⟩
  | ro base cs => exact ⟨ho.1, fun i lv hi => (ho.2 i lv hi).imp fun v hv => ⟨hv.1, hv.2.mono h⟩⟩
  | loop st pend N T ps as body d => obtain ⟨fn, tm, db, dc, h1, h2, h3⟩ := ho; exact ⟨fn, tm, db, dc, h1, h _ _ h2, h3.mono h⟩
  | dfr => exact ho
theorem own_kept {w w' : World} {b c n t z : Nat} {xs : List Value} (hk : w'.heap[b]? = w.heap[b]?) (h : w.ownsRow 0 t z (.slice (some ⟨b, 0, none⟩) n c) n xs) : w'.ownsRow 0 t z (.slice (some ⟨b, 0, none⟩) n c) n xs := by
  obtain ⟨cur, h0, h1, h2, h3, h4⟩ := own_block h
  exact ⟨h.1, .inr ⟨b, c, cur, rfl, Nat.zero_le _, hk.trans h0, h1, h2, h3, h4⟩⟩
theorem lt_of_some {w : World} {b : Nat} {o : Obj} (h : w.heap[b]? = some o) : b < w.heap.size := (Array.getElem?_eq_some_iff.1 h).1
theorem cell_kept {w w' : World} {b o : Nat} (hk : w'.heap[b]? = w.heap[b]?) : w'.cell? ⟨b, o, none⟩ = w.cell? ⟨b, o, none⟩ := by
  unfold World.cell?; rw [hk]
theorem Holds.kept {R : Ren} {w w' : World} {b c : Nat} {o : LO} (hk : w'.heap[b]? = w.heap[b]?) (ho : Holds R w b c o) : Holds R w' b c o := by
  cases o with
  | row t cs => obtain ⟨vs, h1, h2⟩ := ho; exact ⟨vs, hk.trans h1, h2⟩
  | gro t z cs => obtain ⟨n, xs, h1, h2⟩ := ho; exact ⟨n, xs, own_kept hk h1, h2⟩
  | ro base cs =>
    have hb : b < w'.heap.size := lt_of_some (hk.trans (Array.getElem?_eq_getElem ho.1))
    exact ⟨hb, fun i lv hi => (ho.2 i lv hi).imp fun v hv => ⟨(cell_kept hk).trans hv.1, hv.2⟩⟩
  | loop st pend N T ps as body d => obtain ⟨fn, tm, db, dc, h1, h2, h3⟩ := ho; exact ⟨fn, tm, db, dc, hk.trans h1, h2, h3⟩
  | dfr => exact hk.trans ho
theorem Holds.lt {R : Ren} {w : World} {b c : Nat} {o : LO} (ho : Holds R w b c o) : b < w.heap.size := by
  cases o with
  | row t cs => obtain ⟨vs, h1, h2⟩ := ho; exact lt_of_some h1
  | gro t z cs => obtain ⟨n, xs, h1, h2⟩ := ho; obtain ⟨cur, h0, _⟩ := own_block h1; exact lt_of_some h0
  | ro base cs => exact ho.1
  | loop st pend N T ps as body d => obtain ⟨fn, tm, db, dc, h1, h2, h3⟩ := ho; exact lt_of_some h1
  | dfr => exact lt_of_some ho
/-- A row of cells, whole or as far as it is known. -/
theorem Holds.view {R : Ren} {w : World} {b c : Nat} {o : LO} {cs : List LV} (ho : Holds R w b c o) (hc : o.cs = some cs) : ∃ (cur : Array Value) (t : TypeId), w.heap[b]? = some (.cells cur t (0, 0)) ∧ VRL R cs (cur.toList.take cs.length) := by
  cases o with
  | row t cs' =>
    simp [LO.cs] at hc; subst hc
    obtain ⟨vs, h1, h2⟩ := ho
    exact ⟨vs, t, h1, by rw [← h2.length, List.take_length]; exact h2⟩
  | gro t z cs' =>
    simp [LO.cs] at hc; subst hc
    obtain ⟨n, xs, h1, h2⟩ := ho
    obtain ⟨cur, h0, _, _, _, h4⟩ := own_block h1
    refine ⟨cur, t, h0, ?_⟩
    have h5 : xs.length = n * z := h1.1
    rw [← h2.length, h5, h4]; exact h2
  | ro base cs => cases hc
  | loop st pend N T ps as body d => cases hc
  | dfr => cases hc

structure Rel (R : Ren) (H : Hp) (w : World) : Prop where
  at_ : ∀ id o, H.get id = some o → ∃ b c, R id = some (b, c) ∧ Holds R w b c o
  inj : ∀ id id' o o' b c c', H.get id = some o → H.get id' = some o' → R id = some (b, c) → R id' = some (b, c') → id = id'
/-- What no step of closed code touches. -/
structure Quiet (w w' : World) : Prop where
  os : w'.os = w.os
  tape : w'.tape = w.tape
  output : w'.output = w.output
theorem Quiet.refl (w : World) : Quiet w w := ⟨rfl, rfl, rfl⟩
theorem Quiet.trans {w w₁ w₂ : World} (h : Quiet w w₁) (h' : Quiet w₁ w₂) : Quiet w w₂ := ⟨h'.os.trans h.os, h'.tape.trans h.tape, h'.output.trans h.output⟩
/-- From one world to a later one: the names from nx to nx' are new; of the blocks that there were only those that wr names may have changed. -/
structure Ext (R R' : Ren) (nx nx' : Nat) (wr : List Nat) (w w' : World) : Prop where
  le : Le R R'
  out : ∀ id, id < nx ∨ nx' ≤ id → R' id = R id
  size : w.heap.size ≤ w'.heap.size
  keep : ∀ b, b < w.heap.size → (∀ id ∈ wr, id < nx → ∀ c, R id ≠ some (b, c)) → w'.heap[b]? = w.heap[b]?
  new : ∀ id b c, nx ≤ id → id < nx' → R' id = some (b, c) → w.heap.size ≤ b ∨ ∃ i ∈ wr, i < nx ∧ ∃ c', R i = some (b, c')
  quiet : Quiet w w'
def Free (R : Ren) (nx nx' : Nat) : Prop := ∀ id, nx ≤ id → id < nx' → R id = none
theorem Ext.refl (R : Ren) (nx : Nat) (wr : List Nat) (w : World) : Ext R R nx nx wr w w :=
  ⟨Le.refl R, fun _ _ => rfl, Nat.le_refl _, fun _ _ _ => rfl, fun _ _ _ h1 h2 _ => by omega, Quiet.refl w⟩
theorem Ext.wider {R R' : Ren} {nx nx' : Nat} {wr wr' : List Nat} {w w' : World} (h : Ext R R' nx nx' wr w w') (hs : ∀ id ∈ wr, id ∈ wr') : Ext R R' nx nx' wr' w w' :=
  ⟨h.le, h.out, h.size, fun b hb hn => h.keep b hb fun id hi => hn id (hs id hi), fun id b c h1 h2 h3 => (h.new id b c h1 h2 h3).imp_right fun ⟨i, hi, r⟩ => ⟨i, hs i hi, r⟩, h.quiet⟩
theorem Ext.trans {R R₁ R₂ : Ren} {nx nx₁ nx₂ : Nat} {wr : List Nat} {w w₁ w₂ : World} (h : Ext R R₁ nx nx₁ wr w w₁) (h' : Ext R₁ R₂ nx₁ nx₂ wr w₁ w₂) (h1 : nx ≤ nx₁) (h2 : nx₁ ≤ nx₂) : Ext R R₂ nx nx₂ wr w w₂ := by
  refine ⟨h.le.trans h'.le, fun id hid => ?_, Nat.le_trans h.size h'.size, fun b hb hn => ?_, fun id b c hid1 hid2 hr => ?_, h.quiet.trans h'.quiet⟩
  · rcases hid with hlt | hge
    · rw [h'.out id (.inl (by omega)), h.out id (.inl hlt)]
    · rw [h'.out id (.inr hge), h.out id (.inr (by omega))]
  · rw [h'.keep b (by have := h.size; omega) fun id hi hlt c hr => ?_, h.keep b hb hn]
    by_cases hn1 : id < nx
    · rw [h.out id (.inl hn1)] at hr; exact hn id hi hn1 c hr
    · rcases h.new id b c (by omega) hlt hr with hb' | ⟨i, hi', hlt', c', hr'⟩
      · omega
      · exact hn i hi' hlt' c' hr'
  · by_cases hlt : id < nx₁
    · rw [h'.out id (.inl hlt)] at hr
      exact h.new id b c hid1 hlt hr
    · rcases h'.new id b c (by omega) hid2 hr with hb' | ⟨i, hi, hlt', c', hr'⟩
      · exact .inl (Nat.le_trans h.size hb')
      · by_cases hn1 : i < nx
        · rw [h.out i (.inl hn1)] at hr'
          exact .inr ⟨i, hi, hn1, c', hr'⟩
        · exact h.new i b c' (by omega) hlt' hr'
/-- What has come of an operation or a call. -/
def Did (R : Ren) (nx : Nat) (r : Out) (w w' : World) (v : Value) : Prop := ∃ R', Ext R R' nx r.nx r.wr w w' ∧ Rel R' r.H w' ∧ VR R' r.v v

/-! ### New blocks -/
def upd (R : Ren) (id : Nat) (x : Nat × Nat) : Ren := fun j => if j = id then some x else R j
theorem upd_same (R : Ren) (id : Nat) (x : Nat × Nat) : upd R id x id = some x := by simp [upd]
theorem upd_ne (R : Ren) {id j : Nat} (x : Nat × Nat) (h : j ≠ id) : upd R id x j = R j := by simp [upd, h]
theorem le_upd {R : Ren} {id : Nat} {x : Nat × Nat} (h : R id = none) : Le R (upd R id x) := fun j y hy => by
  by_cases e : j = id
  · subst e; rw [h] at hy; cases hy
  · rw [upd_ne R x e]; exact hy
theorem fresh_eq (H : Hp) (nx : Nat) (o : LO) (v : Nat → LV) (wr : List Nat) : fresh H nx o v wr = some ⟨v nx, H.set nx (some o), nx + 1, wr⟩ := by
  simp [fresh, Tr.force_eq, nN_eq]
/-- A new block at the end of the heap. -/
theorem did_new {R : Ren} {H : Hp} {w w' : World} {nx c : Nat} {o : LO} {lv : LV} {v : Value} (hR : Rel R H w) (hf : R nx = none) (hs : w.heap.size < w'.heap.size) (hk : ∀ b, b < w.heap.size → w'.heap[b]? = w.heap[b]?) (hq : Quiet w w')
    (ho : Holds (upd R nx (w.heap.size, c)) w' w.heap.size c o) (hv : VR (upd R nx (w.heap.size, c)) lv v) : Did R nx ⟨lv, H.set nx (some o), nx + 1, []⟩ w w' v := by
  have hle := le_upd (x := (w.heap.size, c)) hf
  refine ⟨upd R nx (w.heap.size, c), ⟨hle, fun id hid => upd_ne R _ (by dsimp only at hid; omega), by omega, fun b hb _ => hk b hb, fun id b c' h1 h2 hr => ?_, hq⟩, ⟨fun id o' ho' => ?_, fun id id' o₁ o₂ b c₁ c₂ h1 h2 r1 r2 => ?_⟩, hv⟩
  · have : id = nx := by simp at h2; omega
    subst this
    rw [upd_same] at hr; cases hr; exact .inl (Nat.le_refl _)
  · by_cases e : id = nx
    · subst e
      rw [Tr.get_set_same] at ho'; cases ho'
      exact ⟨_, _, upd_same R _ _, ho⟩
    · rw [Tr.get_set_ne _ _ e] at ho'
      obtain ⟨b, c', hr, hh⟩ := hR.at_ id o' ho'
      exact ⟨b, c', hle _ _ hr, (hh.kept (hk b hh.lt)).mono hle⟩
  · by_cases e : id = nx
    · by_cases e' : id' = nx
      · rw [e, e']
      · rw [Tr.get_set_ne _ _ e'] at h2
        obtain ⟨b', c', hr, hh⟩ := hR.at_ id' o₂ h2
        subst e
        rw [upd_same] at r1; cases r1
        rw [upd_ne R _ e', hr] at r2; cases r2
        exact absurd hh.lt (Nat.lt_irrefl _)
    · rw [Tr.get_set_ne _ _ e] at h1
      by_cases e' : id' = nx
      · obtain ⟨b', c', hr, hh⟩ := hR.at_ id o₁ h1
        subst e'
        rw [upd_same] at r2; cases r2
        rw [upd_ne R _ e, hr] at r1; cases r1
        exact absurd hh.lt (Nat.lt_irrefl _)
      · rw [Tr.get_set_ne _ _ e'] at h2
        rw [upd_ne R _ e] at r1; rw [upd_ne R _ e'] at r2
        exact hR.inj id id' o₁ o₂ b c₁ c₂ h1 h2 r1 r2
theorem heap_alloc' (w : World) (o : Obj) : (w.alloc o).heap.size = w.heap.size + 1 ∧ (w.alloc o).heap[w.heap.size]? = some o ∧ ∀ b, b < w.heap.size → (w.alloc o).heap[b]? = w.heap[b]? :=
  ⟨by simp, heap_alloc_new w o, fun b hb => heap_alloc_old w o b hb⟩
/-- A new row. -/
theorem did_row {R : Ren} {H : Hp} {w : World} {nx c : Nat} {t : TypeId} {cs : List LV} {vs : Array Value} {lv : LV} {v : Value} (hR : Rel R H w) (hf : R nx = none) (hc : VRL R cs vs.toList) (hv : VR (upd R nx (w.heap.size, c)) lv v) :
    Did R nx ⟨lv, H.set nx (some (.row t cs)), nx + 1, []⟩ w (w.alloc (.cells vs t)) v := by
  obtain ⟨h1, h2, h3⟩ := heap_alloc' w (.cells vs t)
  exact did_new hR hf (by omega) h3 ⟨rfl, rfl, rfl⟩ ⟨vs, h2, hc.mono (le_upd hf)⟩ hv
/-! ### Reading -/
theorem run_view {R : Ren} {w : World} {b : Nat} {cur : Array Value} {ty t : TypeId} {cs : List LV} {off : Nat} {lv : LV} (hb : w.heap[b]? = some (.cells cur ty (0, 0))) (hv : VRL R cs (cur.toList.take cs.length)) (h : prt P t cs off = some lv) :
    ∃ v, VR R lv v ∧ (loadVar t ⟨b, off, none⟩).run P w = .ok v w := by
  obtain ⟨v, hvr, hp⟩ := run_prt (vs := (cur.toList.take cs.length).toArray) h (by simpa using hv)
  refine ⟨v, hvr, ?_⟩
  have hp := hp w
  unfold prt at h
  have hcell : ∀ k, w.cell? ⟨b, k, none⟩ = cur[k]? := fun k => cell_of_row w b k cur ty (0, 0) hb
  cases ha : isAg P t with
  | none => simp [ha] at h
  | some g =>
    cases g with
    | false =>
      simp [ha, at_eq] at h
      obtain ⟨u, hg, hu⟩ := hv.get h
      have hlt : off < cs.length := (List.getElem?_eq_some_iff.1 h).1
      have hg' : cur[off]? = some u := by
        rw [List.getElem?_take, if_pos hlt] at hg; simpa using hg
      simp [part, run_isAg ha, hlt, hg'] at hp
      subst hp
      simp [loadVar, run_isAg ha, hcell, hg']
    | true =>
      cases hs : szOf P t with
      | none => simp [ha, hs] at h
      | some n =>
        cases hk : tk n (dp off cs) with
        | none => simp [ha, hs, hk] at h
        | some r =>
          obtain ⟨rfl, hl⟩ := tk_ok hk
          rw [dp_eq] at hl
          simp [part, run_isAg ha, run_sizeOf' hs] at hp
          subst hp
          have hlen := hv.length
          have hlen' : cs.length ≤ cur.size := by simp at hlen; omega
          simp at hl
          have key := run_loadCells_list (P := P) w ⟨b, off, none⟩ (((cur.toList.take cs.length).drop off).take n) (fun j u hu => by
            rw [add_eq, hcell]
            rw [List.getElem?_take] at hu
            split at hu
            · rw [List.getElem?_drop, List.getElem?_take] at hu
              split at hu
              · simpa using hu
              · cases hu
            · cases hu)
          have hn : (((cur.toList.take cs.length).drop off).take n).length = n := by simp; omega
          rw [hn] at key
          simp [loadVar, run_isAg ha, run_sizeOf' hs, key]
/-- Reading where only some cells are known. -/
theorem run_ro {R : Ren} {w : World} {b base : Nat} {t : TypeId} {cs : List LV} {off : Nat} {lv : LV} (hv : ∀ (i : Nat) (lv : LV), cs[i]? = some lv → ∃ v, w.cell? ⟨b, base + i, none⟩ = some v ∧ VR R lv v) (h : prt P t cs off = some lv) :
    ∃ v, VR R lv v ∧ (loadVar t ⟨b, base + off, none⟩).run P w = .ok v w := by
  unfold prt at h
  cases ha : isAg P t with
  | none => simp [ha] at h
  | some g =>
    cases g with
    | false =>
      simp [ha, at_eq] at h
      obtain ⟨u, hg, hu⟩ := hv off lv h
      exact ⟨u, hu, by simp [loadVar, run_isAg ha, hg]⟩
    | true =>
      cases hs : szOf P t with
      | none => simp [ha, hs] at h
      | some n =>
        cases hk : tk n (dp off cs) with
        | none => simp [ha, hs, hk] at h
        | some r =>
          simp [ha, hs, hk] at h; subst h
          obtain ⟨rfl, hl⟩ := tk_ok hk
          rw [dp_eq] at hl ⊢
          have hrow : ∀ (l : List LV) (k : Nat), (∀ (i : Nat) (lv : LV), l[i]? = some lv → ∃ v, w.cell? ⟨b, k + i, none⟩ = some v ∧ VR R lv v) → ∃ us : List Value, VRL R l us ∧ ∀ (j : Nat) (u : Value), us[j]? = some u → w.cell? ⟨b, k + j, none⟩ = some u := by
            intro l
            induction l with
            | nil => exact fun k _ => ⟨[], rfl, fun j u hu => by simp at hu⟩
            | cons x l ih =>
              intro k hx
              obtain ⟨v, h1, h2⟩ := hx 0 x rfl
              obtain ⟨us, h3, h4⟩ := ih (k + 1) fun i lv hi => by
                have := hx (i + 1) lv (by simpa using hi)
                rwa [show k + (i + 1) = k + 1 + i by omega] at this
              refine ⟨v :: us, VRL.cons h2 h3, fun j u hu => ?_⟩
              cases j with
              | zero => simp at hu; subst hu; exact h1
              | succ j =>
                have := h4 j u (by simpa using hu)
                rwa [show k + (j + 1) = k + 1 + j by omega]
          obtain ⟨us, h1, h2⟩ := hrow ((cs.drop off).take n) (base + off) fun i lv hi => by
            rw [List.getElem?_take] at hi
            split at hi
            · rw [List.getElem?_drop] at hi
              have := hv (off + i) lv hi
              rwa [← Nat.add_assoc] at this
            · cases hi
          have hlen : us.length = n := by rw [h1.length]; simp at hl ⊢; omega
          have key := run_loadCells_list (P := P) w ⟨b, base + off, none⟩ us (fun j u hu => by rw [add_eq]; exact h2 j u hu)
          rw [hlen] at key
          exact ⟨.agg us.toArray, ⟨us.toArray, rfl, by simpa using h1⟩, by simp [loadVar, run_isAg ha, run_sizeOf' hs, key]⟩
end Go.Rx
