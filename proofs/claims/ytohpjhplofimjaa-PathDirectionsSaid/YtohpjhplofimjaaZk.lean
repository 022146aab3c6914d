/-
  What the run of closed code says of the machine: stores, appends and the other builtins. No program.
-/
import Derived.Test.YtohpjhplofimjaaZj
set_option linter.unusedSimpArgs false
set_option linter.unusedVariables false
set_option linter.unusedSectionVars false
namespace Go.Rx
open Go
variable {P : Program} {R : Ren} {N : Nat} {T : Tr LV} {a : Act} {H : Hp} {w : World} {nx : Nat}

/-! ### Stores -/
theorem heap_setRow (w : World) (b : Nat) (cs : Array Value) : (∀ b', b' ≠ b → (w.setRow b cs).heap[b']? = w.heap[b']?) ∧ ∀ (cur : Array Value) (t : TypeId) (f : Nat × Nat), w.heap[b]? = some (.cells cur t f) → (w.setRow b cs).heap[b]? = some (.cells cs t f) := by
  refine ⟨fun b' hne => ?_, fun cur t f h => ?_⟩
  · simp [World.setRow, Array.getElem?_modify, Ne.symm hne]
  · simp [World.setRow, Array.getElem?_modify, h]
/-- A row is written. -/
theorem did_write {w' : World} {id b c : Nat} {o o' : LO} {lv : LV} {v : Value} (hR : Rel R H w) (hid : H.get id = some o) (hr : R id = some (b, c)) (hlt : id < nx) (hs : w'.heap.size = w.heap.size) (hk : ∀ b', b' ≠ b → w'.heap[b']? = w.heap[b']?) (hq : Quiet w w')
    (ho : Holds R w' b c o') (hv : VR R lv v) : Did R nx ⟨lv, H.set id (some o'), nx, [id]⟩ w w' v := by
  refine ⟨R, ⟨Le.refl R, fun _ _ => rfl, by omega, fun b' hb hn => hk b' fun e => ?_, fun id' b' c' h1 h2 _ => by dsimp only at h2; omega, hq⟩, ⟨fun id' x hx => ?_, fun i1 i2 o1 o2 b' c1 c2 h1 h2 r1 r2 => ?_⟩, hv⟩
  · subst e; exact hn id (by simp) hlt c hr
  · by_cases e : id' = id
    · subst e
      rw [Tr.get_set_same] at hx; cases hx
      exact ⟨b, c, hr, ho⟩
    · rw [Tr.get_set_ne _ _ e] at hx
      obtain ⟨b', c', hr', hh⟩ := hR.at_ id' x hx
      exact ⟨b', c', hr', hh.kept (hk b' fun eb => e (by subst eb; exact hR.inj id' id x o b' c' c hx hid hr' hr))⟩
  · have g1 : ∃ o, H.get i1 = some o := by
      by_cases e : i1 = id
      · exact ⟨o, e ▸ hid⟩
      · rw [Tr.get_set_ne _ _ e] at h1; exact ⟨_, h1⟩
    have g2 : ∃ o, H.get i2 = some o := by
      by_cases e : i2 = id
      · exact ⟨o, e ▸ hid⟩
      · rw [Tr.get_set_ne _ _ e] at h2; exact ⟨_, h2⟩
    obtain ⟨x1, g1⟩ := g1; obtain ⟨x2, g2⟩ := g2
    exact hR.inj i1 i2 x1 x2 b' c1 c2 g1 g2 r1 r2
/-- Cells are stored into a row that a name stands for. -/
theorem store_ok {id off b c : Nat} {vs : List LV} {us : List Value} {H' : Hp} {lv : LV} {v : Value} (hR : Rel R H w) (h : wrt H id off vs = some H') (hr : R id = some (b, c)) (hlt : id < nx) (hvs : VRL R vs us) (h1 : allOne vs = true) (hv : VR R lv v) :
    ∃ w', (storeCells ⟨b, off, none⟩ us).run P w = .ok () w' ∧ Did R nx ⟨lv, H', nx, [id]⟩ w w' v := by
  unfold wrt at h
  cases hg : H.get id with
  | none => simp [hg] at h
  | some o =>
    obtain ⟨b', c', hr', hh⟩ := hR.at_ id o hg
    rw [hr] at hr'; cases hr'
    cases o <;> simp only [hg] at h <;> try cases h
    case row t cs =>
      cases hp : pt off cs vs with
      | none => simp [hp] at h
      | some cs' =>
        simp [hp, Tr.force_eq] at h; subst h
        obtain ⟨cur, hb, hc⟩ := hh
        obtain ⟨hc', hle⟩ := VRL.pt hp hc hvs
        have hst := run_storeCells_at P b off t us 0 cur w hb (by simpa using hle) (hvs.one h1)
        simp only [Nat.add_zero] at hst
        obtain ⟨hs1, hs2⟩ := heap_setRow w b (cur.toList.take off ++ us ++ cur.toList.drop (off + us.length)).toArray
        exact ⟨_, hst, did_write hR hg hr hlt (by simp) hs1 ⟨rfl, rfl, rfl⟩ ⟨_, hs2 _ _ _ hb, by simpa using hc'⟩ hv⟩
    case gro t z cs =>
      cases hp : pt off cs vs with
      | none => simp [hp] at h
      | some cs' =>
        simp [hp, Tr.force_eq] at h; subst h
        obtain ⟨n, xs, hown, hc⟩ := hh
        obtain ⟨cur, hb, h2, h3, h4, h5⟩ := own_block hown
        obtain ⟨hc', hle⟩ := VRL.pt hp hc hvs
        have hxl : xs.length = n * z := hown.1
        have hcap : n * z ≤ c * z := Nat.mul_le_mul_right _ h2
        have hst := run_storeCells_at P b off t us 0 cur w hb (by omega) (hvs.one h1)
        simp only [Nat.add_zero] at hst
        obtain ⟨hs1, hs2⟩ := heap_setRow w b (cur.toList.take off ++ us ++ cur.toList.drop (off + us.length)).toArray
        refine ⟨_, hst, did_write hR hg hr hlt (by simp) hs1 ⟨rfl, rfl, rfl⟩ ⟨n, xs.take off ++ us ++ xs.drop (off + us.length), ?_, hc'⟩ hv⟩
        refine ⟨by simp; omega, .inr ⟨b, c, _, rfl, Nat.zero_le _, hs2 _ _ _ hb, h2, h3, by simp; omega, ?_⟩⟩
        have hcl : cur.toList.length = cur.size := by simp
        rw [← h5]
        apply List.ext_getElem?
        intro i
        simp only [List.toList_toArray, List.getElem?_take, List.getElem?_append, List.length_append, List.length_take, List.getElem?_drop, List.append_assoc, hcl]
        have e1 : min off cur.size = off := by omega
        have e2 : min off (min (n * z) cur.size) = off := by omega
        rw [e1, e2]
        by_cases g1 : i < n * z
        · rw [if_pos g1]
          by_cases g2 : i < off
          · rw [if_pos g2, if_pos g2, if_pos g2, if_pos g2, if_pos g1]
          · rw [if_neg g2, if_neg g2]
            by_cases g3 : i - off < us.length
            · rw [if_pos g3, if_pos g3]
            · rw [if_neg g3, if_neg g3, if_pos (by omega)]
        · rw [if_neg g1, if_neg (show ¬ i < off by omega), if_neg (show ¬ i - off < us.length by omega), if_neg (by omega)]
theorem evStore_ok (hF : FR R N T a.tmps) (hR : Rel R H w) {o : Oper} {t : TypeId} {x y : Operand} {r : Out} (ho : o.op = .store t x y) (h : evStore P T H nx t x y = some r) : Ran P R nx a o r w := by
  unfold evStore at h
  cases hx : evO T x with
  | none => simp [hx] at h
  | some vx =>
    cases hy : evO T y with
    | none => cases vx <;> simp [hx, hy] at h
    | some vy =>
      cases hs : szOf P t with
      | none => cases vx <;> simp [hx, hy, hs] at h
      | some n =>
        have hvx := evO_ok hF hx
        have hvy := evO_ok hF hy
        cases vx <;> simp only [hx, hy, hs] at h <;> try cases h
        rename_i id off
        cases hb : (Nat.beq vy.cells.length n && allOne vy.cells && Nat.blt id nx)
        · simp [hb] at h
        · simp only [hb, cond_true] at h
          simp only [Bool.and_eq_true, beq_iff] at hb
          obtain ⟨⟨h1, h2⟩, h3⟩ := hb
          have h3 : id < nx := by simpa using h3
          cases hw : wrt H id off vy.cells with
          | none => simp [hw] at h
          | some H' =>
            simp [hw] at h; subst h
            obtain ⟨b, c, hr, e⟩ := hvx
            obtain ⟨w', hst, hd⟩ := store_ok (P := P) (lv := .tup []) (v := undef) hR hw hr h3 hvy.cells h2 ⟨#[], rfl, rfl⟩
            have hsz : (a.eval y).cells.size = n := by rw [← h1, ← hvy.cells.length]; simp
            refine ⟨undef, w', hd, .inr ⟨?_, rfl⟩⟩
            simp [execOp, ho, Instr.storeAt, e, Instr.sureAddr, storeVar, run_sizeOf' hs, hsz, hst]

/-! ### make -/
theorem evMakeSl_ok (hF : FR R N T a.tmps) (hR : Rel R H w) {o : Oper} {t : TypeId} {l c : Operand} {r : Out} (hf : Free R nx r.nx) (ho : o.op = .makeSlice t l c) (h : evMakeSl P T H nx t l c = some r) : Ran P R nx a o r w := by
  unfold evMakeSl at h
  cases hu : P.underlying t with
  | none => simp [hu] at h
  | some d =>
    cases d <;> simp only [hu] at h <;> try cases h
    rename_i e
    cases hi : P.info? e with
    | none => simp [hi] at h
    | some i =>
      cases hz : i.zero with
      | none => simp [hi, hz] at h
      | some zv =>
        simp only [hi, hz] at h
        cases hzz : ofV zv with
        | none => simp [hzz] at h
        | some z =>
          cases hl : evO T l with
          | none => simp [hzz, hl] at h
          | some vl =>
            cases hc : evO T c with
            | none => simp [hzz, hl, hc] at h
            | some vc =>
              simp only [hzz, hl, hc] at h
              split at h
              · rename_i z' l' c' e1 e2 e3
                cases e1; cases e2; cases e3
                rw [nN_eq] at h
                cases hb : (Nat.beq z.cells.length i.size && Nat.blt 0 i.size && Nat.ble l' c' && Nat.ble c' 1000000 && Nat.ble (i.bytes * c') 281474976710656)
                · simp [hb] at h
                · simp only [hb, cond_true, fresh_eq] at h
                  simp only [Bool.and_eq_true, beq_iff] at hb
                  obtain ⟨⟨⟨⟨h1, h2⟩, h3⟩, h4⟩, h5⟩ := hb
                  have h2 : 0 < i.size := by simpa using h2
                  have h3 : l' ≤ c' := by simpa using h3
                  have h4 : c' ≤ 1000000 := by simpa using h4
                  have h5 : i.bytes * c' ≤ 281474976710656 := by simpa using h5
                  cases h
                  have el : a.eval l = .int .i64 (l' : Int) := evO_ok hF hl
                  have ec : a.eval c = .int .i64 (c' : Int) := evO_ok hF hc
                  have hzv : VR R z zv := ofV_ok hzz
                  have hzs : zv.cells.size = i.size := by rw [← h1, ← hzv.cells.length]; simp
                  have hrun := run_make (P := P) w t e i zv hu hi hz .i64 .i64 (l' : Int) (c' : Int) (by omega) (by omega) (by rw [← Int.natCast_mul]; omega) (by omega)
                  have hcells : VRL R (rep c' z.cells) (madeCells zv.cells ((c' : Int).toNat * i.size)).toList := by
                    have := cells_flat zv.cells c' i.size hzs h2
                    simp only [Int.toNat_natCast, madeCells]
                    rw [this]; exact hzv.cells.rep c'
                  exact ran_of (s := Instr.makeSlice t (a.eval l) (a.eval c)) (did_row (c := 0) hR (hf nx (Nat.le_refl _) (Nat.lt_succ_self _)) hcells ⟨_, _, upd_same R nx _, rfl⟩) (by rw [el, ec]; exact hrun) (by simp only [execOp, ho])
              · cases h
end Go.Rx
