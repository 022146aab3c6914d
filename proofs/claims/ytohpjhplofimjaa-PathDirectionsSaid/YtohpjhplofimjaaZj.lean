/-
  What the run of closed code says of the machine: every operation but the calls of functions. No program.
-/
import Derived.Test.YtohpjhplofimjaaZi
set_option linter.unusedSimpArgs false
set_option linter.unusedVariables false
set_option linter.unusedSectionVars false
namespace Go.Rx
open Go
variable {P : Program} {R : Ren} {N : Nat} {T : Tr LV} {a : Act} {H : Hp} {w : World} {nx : Nat}

/-- The operation yields a value, or nothing (the value that nothing stands for), and a world, as the run says. -/
def Ran (P : Program) (R : Ren) (nx : Nat) (a : Act) (o : Oper) (r : Out) (w : World) : Prop :=
  ∃ v w', Did R nx r w w' v ∧ ((execOp a.eval o).run P w = .ok (.value v) w' ∨ ((execOp a.eval o).run P w = .ok .skip w' ∧ v = undef))
theorem ran_of {o : Oper} {r : Out} {v : Value} {w' : World} {s : Sem Value} (hd : Did R nx r w w' v) (hs : s.run P w = .ok v w') (he : execOp a.eval o = (do pure (.value (← s)))) : Ran P R nx a o r w :=
  ⟨v, w', hd, .inl (by rw [he]; simp [hs])⟩
theorem did_same (hR : Rel R H w) {lv : LV} {v : Value} (hv : VR R lv v) : Did R nx ⟨lv, H, nx, []⟩ w w v := ⟨R, Ext.refl R nx [] w, hR, hv⟩
theorem evPureO_ok (hF : FR R N T a.tmps) (hR : Rel R H w) {o : Oper} {r : Out} (h : evPureO P T H nx o.op = some r) : Ran P R nx a o r w := by
  unfold evPureO at h
  cases hp : evPure P T o.op with
  | none => simp [hp] at h
  | some lv =>
    simp [hp] at h; subst h
    obtain ⟨v, hv, hr⟩ := evPure_ok hF o hp
    exact ⟨v, w, did_same hR hv, .inl (hr w)⟩
theorem evLoad_ok (hF : FR R N T a.tmps) (hR : Rel R H w) {o : Oper} {t : TypeId} {x : Operand} {r : Out} (ho : o.op = .load t x) (h : evLoad P T H nx t x = some r) : Ran P R nx a o r w := by
  unfold evLoad at h
  cases hx : evO T x with
  | none => simp [hx] at h
  | some vx =>
    have hv := evO_ok hF hx
    cases vx <;> simp only [hx] at h <;> try cases h
    rename_i id off
    cases hg : H.get id with
    | none => simp [hg] at h
    | some ob =>
      simp only [hg] at h
      cases hc : ob.cs with
      | none =>
        simp only [hc] at h
        cases ob <;> simp only at h <;> try cases h
        rename_i base cs
        cases hle : Nat.ble base off
        · simp [hle] at h
        · simp only [hle, cond_true] at h
          cases hp : prt P t cs (off - base) with
          | none => simp [hp] at h
          | some lv =>
            simp [hp] at h; subst h
            obtain ⟨b, c, hr, e⟩ := hv
            obtain ⟨b', c', hr', hh⟩ := hR.at_ id _ hg
            rw [hr] at hr'; cases hr'
            obtain ⟨v, hvr, hl⟩ := run_ro (P := P) hh.2 hp
            have hle' : base ≤ off := by simpa using hle
            rw [show base + (off - base) = off by omega] at hl
            exact ran_of (s := Instr.loadAt t (a.eval x)) (did_same hR hvr) (by simp [Instr.loadAt, e, Instr.sureAddr, hl]) (by simp only [execOp, ho])
      | some cs =>
        simp only [hc] at h
        cases hp : prt P t cs off with
        | none => simp [hp] at h
        | some lv =>
          simp [hp] at h; subst h
          obtain ⟨b, c, hr, e⟩ := hv
          obtain ⟨b', c', hr', hh⟩ := hR.at_ id ob hg
          rw [hr] at hr'; cases hr'
          obtain ⟨cur, ty, hb, hcv⟩ := hh.view hc
          obtain ⟨v, hvr, hl⟩ := run_view hb hcv hp
          exact ran_of (s := Instr.loadAt t (a.eval x)) (did_same hR hvr) (by simp [Instr.loadAt, e, Instr.sureAddr, hl]) (by simp only [execOp, ho])
theorem evAlloc_ok (hR : Rel R H w) {o : Oper} {t : TypeId} {r : Out} (hf : Free R nx r.nx) (ho : o.op = .alloc t) (h : evAlloc P H nx t = some r) : Ran P R nx a o r w := by
  unfold evAlloc at h
  cases hz : zeroOf P t with
  | none => simp [hz] at h
  | some z =>
    simp [hz, fresh_eq] at h; subst h
    obtain ⟨zv, hzv, hzr⟩ := run_zeroOf hz (R := R)
    exact ran_of (s := Instr.alloc t true (.tuple #[])) (did_row (c := 0) hR (hf nx (Nat.le_refl _) (Nat.lt_succ_self _)) hzv.cells ⟨_, _, upd_same R nx _, rfl⟩)
      (by simp [Instr.alloc, hzr, newVar, newRow]) (by simp only [execOp, ho])
theorem evBox_ok (hF : FR R N T a.tmps) (hR : Rel R H w) {o : Oper} {t : TypeId} {x : Operand} {r : Out} (hf : Free R nx r.nx) (ho : o.op = .box t x) (h : evBox T H nx t x = some r) : Ran P R nx a o r w := by
  unfold evBox at h
  cases hx : evO T x with
  | none => simp [hx] at h
  | some v =>
    simp [hx, fresh_eq] at h; subst h
    exact ran_of (s := Instr.box t (a.eval x)) (did_row (c := 0) hR (hf nx (Nat.le_refl _) (Nat.lt_succ_self _)) (evO_ok hF hx).cells ⟨_, _, upd_same R nx _, rfl⟩)
      (by simp [Instr.box, newVar, newRow]) (by simp only [execOp, ho])
/-- n copies of a list of values. -/
theorem rep_eq (n : Nat) (z : List LV) : rep n z = (List.replicate n z).flatten := by
  induction n with
  | zero => rfl
  | succ n ih => simp [rep, ap_eq, ih, List.replicate_succ]
theorem VRL.rep {z : List LV} {vs : List Value} (h : VRL R z vs) : ∀ n, VRL R (Rx.rep n z) (List.replicate n vs).flatten
  | 0 => rfl
  | n + 1 => by
    rw [Rx.rep, ap_eq, List.replicate_succ, List.flatten_cons]
    exact h.append (VRL.rep h n)
theorem get_flat {z : List Value} (hz : 0 < z.length) : ∀ (n i : Nat), i < n * z.length → (List.replicate n z).flatten[i]? = z[i % z.length]?
  | 0, i, h => by simp at h
  | n + 1, i, h => by
    rw [List.replicate_succ, List.flatten_cons, List.getElem?_append]
    by_cases hi : i < z.length
    · rw [if_pos hi, Nat.mod_eq_of_lt hi]
    · have h' : (n + 1) * z.length = n * z.length + z.length := Nat.succ_mul n z.length
      rw [if_neg hi, get_flat hz n (i - z.length) (by omega), Nat.mod_eq_sub_mod (a := i) (by omega)]
theorem cells_flat (z : Array Value) (n m : Nat) (hz : z.size = m) (hm : 0 < m) : ((Array.range (n * m)).map fun i => z[i % z.size]!).toList = (List.replicate n z.toList).flatten := by
  apply List.ext_getElem?
  intro i
  subst hz
  simp only [Array.toList_map, Array.toList_range, List.getElem?_map]
  by_cases hi : i < n * z.size
  · rw [get_flat (by simpa using hm) n i (by simpa using hi)]
    have hlt : i % z.size < z.size := Nat.mod_lt _ hm
    simp [List.getElem?_range hi, getElem!_pos z (i % z.size) hlt, hlt]
  · have h1 : (List.range (n * z.size))[i]? = none := by simp; omega
    have h2 : (List.replicate n z.toList).flatten[i]? = none := by
      rw [List.getElem?_eq_none]
      simp
      omega
    rw [h1, h2]; rfl
theorem evBuildSl_ok (hF : FR R N T a.tmps) (hR : Rel R H w) {o : Oper} {t : TypeId} {len : Nat} {ps : Array (Nat × Operand)} {r : Out} (hf : Free R nx r.nx) (ho : o.op = .buildSlice t len ps) (h : evBuildSl P T H nx t len ps = some r) : Ran P R nx a o r w := by
  unfold evBuildSl at h
  cases hu : P.underlying t with
  | none => simp [hu] at h
  | some d =>
    cases d <;> simp only [hu] at h <;> try cases h
    rename_i e
    cases hz : zeroOf P e with
    | none => simp [hz] at h
    | some z =>
      cases hs : szOf P e with
      | none => simp [hz, hs] at h
      | some n =>
        cases hp : parts T ps.toList with
        | none => simp [hz, hs, hp] at h
        | some l =>
          simp only [hz, hs, hp] at h
          cases hb : (Nat.beq z.cells.length n && Nat.blt 0 n && Nat.ble (len * n) 16777216)
          · simp [hb] at h
          · simp only [hb, cond_true] at h
            simp only [Bool.and_eq_true, beq_iff] at hb
            obtain ⟨⟨h1, h2⟩, h3⟩ := hb
            have h2 : 0 < n := by simpa using h2
            have h3 : len * n ≤ 16777216 := by simpa using h3
            cases hfl : fill (fun i => some (i * n, n)) (rep len z.cells) l with
            | none => simp [hfl] at h
            | some cs =>
              simp [hfl, fresh_eq] at h; subst h
              obtain ⟨zv, hzv, hzr⟩ := run_zeroOf hz (R := R)
              have hzs : zv.cells.size = n := by rw [← h1, ← hzv.cells.length]; simp
              have hc0 : VRL R (rep len z.cells) ((Array.range (len * n)).map fun i => zv.cells[i % zv.cells.size]!).toList := by
                rw [cells_flat _ len n hzs h2]; exact hzv.cells.rep len
              obtain ⟨out, hout, hor⟩ := fill_ok (l' := (ps.map fun (i, x) => (i, a.eval x)).toList) hfl (by simpa using parts_ok hF hp) hc0
              have hcap : ¬ (16777216 < len * n) := by omega
              refine ran_of (s := Instr.buildSlice t len (ps.map fun (i, x) => (i, a.eval x))) (w' := w.alloc (.cells out e)) (v := .slice (some ⟨w.heap.size, 0, none⟩) len len) (did_row (c := 0) hR (hf nx (Nat.le_refl _) (Nat.lt_succ_self _)) hor ⟨_, _, upd_same R nx _, rfl⟩) ?_ (by simp only [execOp, ho])
              have hcap' : ¬ (len * n > 2 ^ 24) := by omega
              by_cases h0 : len * n = 0
              · have e0 : ((Array.range (len * n)).map fun i => (#[] : Array Value)[i % (#[] : Array Value).size]!) = ((Array.range (len * n)).map fun i => zv.cells[i % zv.cells.size]!) := by rw [h0]; simp
                simp only [Instr.buildSlice, Sem.run_bind, run_underlying hu, Result.andThen_ok, run_sizeOf' hs, Sem.run_ite, if_neg hcap', if_pos h0, Sem.run_pure, newRow, run_newObj, e0, hout]
                rfl
              · simp only [Instr.buildSlice, Sem.run_bind, run_underlying hu, Result.andThen_ok, run_sizeOf' hs, Sem.run_ite, if_neg hcap', if_neg h0, hzr, Sem.run_pure, hout, newRow, run_newObj]
                rfl
end Go.Rx
