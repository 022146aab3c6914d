/-
  What the run of closed code says of the machine: codes, loops, loops over functions. No program.
-/
import Derived.Test.YtohpjhplofimjaaZt
set_option linter.unusedSimpArgs false
set_option linter.unusedVariables false
set_option linter.unusedSectionVars false
namespace Go.Rx
open Go
variable {P : Program}

/-- What is shown of a code: from a state that the run's stands for it comes to one that the run's end stands for. -/
def Comes' (P : Program) (rb : Option Nat) (n : Nat) (c : Code) (R : Ren) (s : S) (a : Act) (w : World) (e : Ex) (s' : S) : Prop :=
  ∀ (Q : Exit → Act → World → Prop), (∀ R' a' w', Ext R R' s.nx s'.nx s'.wr w w' → St R' s' a' w' → Q e.ex a' w') → c.wpIn (Fw rb) n P Q a w
theorem putObj_facts (w : World) (b : Nat) (o : Obj) : (w.putObj b o).heap.size = w.heap.size ∧ (∀ b', b' ≠ b → (w.putObj b o).heap[b']? = w.heap[b']?) ∧ (b < w.heap.size → (w.putObj b o).heap[b]? = some o) :=
  ⟨World.putObj_size, fun _ h => World.putObj_heap_other h, fun h => World.putObj_heap_same h⟩
/-- A loop's record is turned. -/
theorem did_turn {R : Ren} {H : Hp} {w : World} {id b c nx : Nat} {st st' : LoopState} {pend pend' : Option Code} {N : Nat} {T : Tr LV} {ps : Array Tmp} {as body : Code} {d : Nat} {lv : LV} {v : Value} (hR : Rel R H w) (hg : H.get id = some (.loop st pend N T ps as body d)) (hr : R id = some (b, c)) (hlt : id < nx) (hv : VR R lv v) :
    ∃ rec : Loop, w.heap[b]? = some (.loop rec) ∧ rec.state = st ∧ rec.pending = pend ∧ Did R nx ⟨lv, H.set id (some (.loop st' pend' N T ps as body d)), nx, [id]⟩ w (w.putObj b (.loop { rec with state := st', pending := pend' })) v := by
  obtain ⟨b', c', hr', fn, tm, db, dc, h1, h2, h3⟩ := hR.at_ id _ hg
  rw [hr] at hr'; cases hr'
  obtain ⟨e1, e2, e3⟩ := putObj_facts w b (.loop { state := st', pending := pend', fn, tmps := tm, params := ps, assign := as, body, defers := db })
  exact ⟨_, h1, rfl, rfl, did_write hR hg hr hlt e1 e2 ⟨rfl, rfl, rfl⟩ ⟨fn, tm, db, dc, e3 (lt_of_some h1), h2, h3⟩ hv⟩
theorem Did.lv {R : Ren} {nx : Nat} {v : LV} {H : Hp} {nx' : Nat} {wr : List Nat} {w w' : World} {u : Value} (h : Did R nx ⟨v, H, nx', wr⟩ w w' u) : ∃ R', Ext R R' nx nx' wr w w' ∧ Rel R' H w' := let ⟨R', h1, h2, _⟩ := h; ⟨R', h1, h2⟩
theorem jump_ok {pend : Option Code} {e : Ex} (h : jump pend = some e) {rb : Option Nat} {n : Nat} {Q : Exit → Act → World → Prop} {a : Act} {w : World} (hq : Q e.ex a w) : (match pend with | none => Q .normal a w | some c => c.wpIn (Fw rb) n P Q a w) := by
  unfold jump at h
  split at h <;> simp at h <;> subst h
  · exact hq
  · exact wpIn_ret hq
  · exact wpIn_exit hq
  · exact wpIn_goto hq
/-- Behind the record of a loop over a function: the call, and what the rounds have left. -/
theorem range_tail {call : CallT} (hcall : CallOK P call) {rb : Option Nat} {n : Nat} {g : FuncId} {cap : List LV} {ca : Array Value} {R R1 : Ren} {H1 : Hp} {w w1 : World} {N d l lb lc nx : Nat} {T : Tr LV} {a' : Act} {r : Res} {mx : Nat} {df' wr' : List Nat}
    {st : LoopState} {pend : Option Code} {N' : Nat} {T' : Tr LV} {ps' : Array Tmp} {as' body' : Code} {d' : Nat} {e : Ex} {Q : Exit → Act → World → Prop}
    (hc : call (.f g) (.yld l :: cap) H1 nx = some r) (hm1 : Rel R1 H1 w1) (hl : R1 l = some (lb, lc)) (hca : VRL R1 cap ca.toList) (hF : FR R1 N T a'.tmps) (hD : DR R1 df' a'.defers) (hf : Free R1 nx r.mx) (hln : l < nx)
    (hx : Ext R R1 d nx wr' w w1) (hdn : d ≤ nx) (hle : nx ≤ r.o.nx) (hg : r.o.H.get l = some (.loop st pend N' T' ps' as' body' d')) (hnb : st ≠ .busy) (hj : jump pend = some e) (hw1 : ∀ id ∈ r.o.wr, id ∈ wr') (hw2 : l ∈ wr')
    (hQ : ∀ R' a' w', Ext R R' d r.o.nx wr' w w' → St R' ⟨T, N, r.o.H.set l (some (.loop .exhausted pend N' T' ps' as' body' d')), r.o.nx, wr', df', mx⟩ a' w' → Q e.ex a' w') :
    (∀ (args : Array Value) (w : World), (callFunc g args).run P w = .ok (.enter g args) w) ∧ CallsIn (Fw rb) (n - 1) P g (#[Value.func (.yield lb) #[] #[]] ++ ca) w1 (rangePost (Fw rb) n P lb Q a') := by
  have hv : VRL R1 (.yld l :: cap) (Value.func (.yield lb) #[] #[] :: ca.toList) := VRL.cons ⟨lb, lc, hl, rfl⟩ hca
  obtain ⟨h1, h2⟩ := hcall (.f g) _ H1 nx r hc R1 w1 _ hm1 hv hf
  refine ⟨h1, ?_⟩
  have e1 : (#[Value.func (.yield lb) #[] #[]] ++ ca) = (Value.func (.yield lb) #[] #[] :: ca.toList).toArray := by apply Array.toList_inj.1; simp
  rw [e1]
  refine CallsIn.mono (show CallsIn (Fw rb) (n - 1) P g _ w1 _ from h2 (n - 1)) ?_
  rintro x w2 ⟨v, rfl, R2, hx2, hm2, _⟩
  have hl2 : R2 l = some (lb, lc) := hx2.le _ _ hl
  obtain ⟨rec, hb, hst, hpe, hdid⟩ := did_turn (lv := .b true) (v := .bool true) (st' := .exhausted) (pend' := pend) hm2 hg hl2 (show l < r.o.nx by omega) rfl
  obtain ⟨R3, hx3, hm3⟩ := hdid.lv
  have hend := run_endLoop (P := P) hb (by rw [hst]; exact hnb)
  have e2 : w2.putObj lb (.loop { rec with state := .exhausted, pending := pend }) = w2.putObj lb (.loop { rec with state := .exhausted }) := by rw [← hpe]
  rw [e2] at hx3 hm3
  have hxa : Ext R R3 d r.o.nx wr' w _ := (hx.trans (hx2.wider hw1) hdn hle).trans (hx3.wider fun id hi => by simp at hi; subst hi; exact hw2) (by omega) (Nat.le_refl _)
  have hq := hQ R3 a' _ hxa ⟨(hF.mono hx2.le).mono hx3.le, hm3, (hD.mono hx2.le).mono hx3.le⟩
  refine ⟨pend, w2.putObj lb (.loop { rec with state := .exhausted }), ?_, ?_⟩
  · rw [hend, hpe]
  · have := jump_ok (P := P) hj (rb := rb) (n := n) hq
    cases pend <;> exact this
theorem rel_new {R : Ren} {H : Hp} {w w' : World} {nx c : Nat} {o : LO} (hR : Rel R H w) (hf : R nx = none) (hs : w.heap.size < w'.heap.size) (hk : ∀ b, b < w.heap.size → w'.heap[b]? = w.heap[b]?)
    (ho : Holds (upd R nx (w.heap.size, c)) w' w.heap.size c o) : Rel (upd R nx (w.heap.size, c)) (H.set nx (some o)) w' := by
  have hle0 := le_upd (x := (w.heap.size, c)) hf
  refine ⟨fun id x hx => ?_, fun id id' o1 o2 b c1 c2 g1 g2 r1 r2 => ?_⟩
  · by_cases e' : id = nx
    · subst e'; rw [Tr.get_set_same] at hx; cases hx; exact ⟨_, _, upd_same R _ _, ho⟩
    · rw [Tr.get_set_ne _ _ e'] at hx
      obtain ⟨b, c, hr, hh⟩ := hR.at_ id x hx
      exact ⟨b, c, hle0 _ _ hr, (hh.kept (hk b hh.lt)).mono hle0⟩
  · have old : ∀ i y, i ≠ nx → (H.set nx (some o)).get i = some y → ∃ b c, R i = some (b, c) ∧ b < w.heap.size ∧ H.get i = some y := fun i y hne hy => by
      rw [Tr.get_set_ne _ _ hne] at hy
      obtain ⟨b, c, hr, hh⟩ := hR.at_ i y hy
      exact ⟨b, c, hr, hh.lt, hy⟩
    by_cases e1 : id = nx
    · by_cases e2 : id' = nx
      · rw [e1, e2]
      · obtain ⟨b', c', q, hb, _⟩ := old id' o2 e2 g2
        rw [e1, upd_same] at r1; cases r1
        rw [upd_ne R _ e2, q] at r2; cases r2; omega
    · obtain ⟨b', c', q, hb, go⟩ := old id o1 e1 g1
      by_cases e2 : id' = nx
      · rw [e2, upd_same] at r2; cases r2
        rw [upd_ne R _ e1, q] at r1; cases r1; omega
      · obtain ⟨b2, c2', q', hb', go'⟩ := old id' o2 e2 g2
        rw [upd_ne R _ e1] at r1; rw [upd_ne R _ e2] at r2
        exact hR.inj id id' o1 o2 b c1 c2 go go' r1 r2
theorem ext_new {R : Ren} {w w' : World} {nx c : Nat} {wr : List Nat} (hf : R nx = none) (hs : w.heap.size < w'.heap.size) (hk : ∀ b, b < w.heap.size → w'.heap[b]? = w.heap[b]?) (hq : Quiet w w') : Ext R (upd R nx (w.heap.size, c)) nx (nx + 1) wr w w' :=
  ⟨le_upd hf, fun id hid => upd_ne R _ (by omega), by omega, fun b hb _ => hk b hb, fun id b c' i1 i2 hr => by
    have : id = nx := by omega
    subst this; rw [upd_same] at hr; cases hr; exact .inl (Nat.le_refl _), hq⟩
/-- The two blocks of an outermost loop. -/
theorem two_new {R : Ren} {H : Hp} {w w' w1 : World} {d N : Nat} {T : Tr LV} {a : Act} {ps : Array Tmp} {as body : Code} {fn : FuncId} {wr : List Nat} (hM : Rel R H w) (hF : FR R N T a.tmps) (h0 : R d = none) (h1 : R (d + 1) = none)
    (hw' : w' = w.alloc (.deferred (some []))) (hw1 : w1 = w'.alloc (.loop { state := .ready, pending := none, fn := fn, tmps := a.tmps, params := ps, assign := as, body, defers := w.heap.size })) :
    ∃ R1, Ext R R1 d (d + 2) wr w w1 ∧ Rel R1 ((H.set d (some .dfr)).set (d + 1) (some (.loop .ready none N T ps as body d))) w1 ∧ R1 d = some (w.heap.size, 0) ∧ R1 (d + 1) = some (w.heap.size + 1, 0) := by
  obtain ⟨z1, z2, z3⟩ := heap_alloc' w (.deferred (some []))
  rw [← hw'] at z1 z2 z3
  obtain ⟨y1, y2, y3⟩ := heap_alloc' w' (.loop { state := .ready, pending := none, fn := fn, tmps := a.tmps, params := ps, assign := as, body, defers := w.heap.size })
  rw [← hw1] at y1 y2 y3
  have h1' : (upd R d (w.heap.size, 0)) (d + 1) = none := by rw [upd_ne R _ (by omega)]; exact h1
  have hm0 := rel_new (c := 0) (o := .dfr) hM h0 (by omega) z3 z2
  have hx0 := ext_new (c := 0) (wr := wr) h0 (by omega) z3 (by subst hw'; exact ⟨rfl, rfl, rfl⟩)
  have hle1 := le_upd (x := (w'.heap.size, 0)) h1'
  have hm1 := rel_new (c := 0) (o := .loop .ready none N T ps as body d) hm0 h1' (by omega) y3 ⟨fn, a.tmps, w.heap.size, 0, y2, hle1 _ _ (upd_same R d _), (hF.mono hx0.le).mono hle1⟩
  have hx1 := ext_new (c := 0) (wr := wr) h1' (by omega) y3 (by subst hw1; exact ⟨rfl, rfl, rfl⟩)
  exact ⟨_, hx0.trans hx1 (by omega) (by omega), hm1, hle1 _ _ (upd_same R d _), by rw [← z1]; exact upd_same _ _ _⟩
theorem evRange_outer {call : CallT} (hcall : CallOK P call) {n : Nat} {f : Operand} {ps : Array Tmp} {as body : Code} {T : Tr LV} {N : Nat} {H : Hp} {d mx : Nat} {wr df : List Nat} {g : FuncId} {cap : List LV} {s' : S} {e : Ex} {R : Ren} {a : Act} {w : World}
    (hfv : evO T f = some (.fn (.func g) [] cap)) (hs : St R ⟨T, N, H, d, wr, df, mx⟩ a w) (hf : Free R d s'.mx)
    (h : endRange (d + 1) (d + 2) (fun nx' H wr mx => ⟨T, N, H, nx', wr, d :: df, mx⟩) wr mx (call (.f g) (.yld (d + 1) :: cap) ((H.set d (some .dfr)).set (d + 1) (some (.loop .ready none N T ps as body d))) (d + 2)) = some (e, s')) :
    Comes' P none n (.rangeFunc f ps as body) R ⟨T, N, H, d, wr, df, mx⟩ a w e s' := by
  intro Q hQ
  obtain ⟨fi, ca, hev, hfi, hca⟩ := evO_ok hs.F hfv
  have hfi' : fi = #[] := by apply Array.toList_inj.1; exact hfi
  subst hfi'
  obtain ⟨r, st, pend, N', T', ps', as', body', d', hc, hg, hle, hnb, hj, rfl⟩ := endRange_ok h
  have hf' : Free R d r.mx := Free.less (b' := more' mx r.mx) hf (more'_le _ _).2
  have hle1 := hle.1
  have hle2 := hle.2
  have h0 : R d = none := hf' d (Nat.le_refl _) (by omega)
  have h1 : R (d + 1) = none := hf' (d + 1) (by omega) (by omega)
  refine wpIn_rangeFunc ?_
  intro fn _
  obtain ⟨w', hw'⟩ : ∃ w', w' = w.alloc (.deferred (some [])) := ⟨_, rfl⟩
  obtain ⟨w1, hw1⟩ : ∃ w1, w1 = w'.alloc (.loop { state := .ready, pending := none, fn := fn, tmps := a.tmps, params := ps, assign := as, body, defers := w.heap.size }) := ⟨_, rfl⟩
  obtain ⟨R1, hxx, hmB, hdR, hlb⟩ := two_new (wr := addW [d + 1] (addW r.o.wr wr)) hs.M hs.F h0 h1 hw' hw1
  have hent := run_enterLoop_outer (P := P) (w := w) fn a.tmps ps as body
  rw [← hw', ← hw1] at hent
  obtain ⟨a', ha'⟩ : ∃ a' : Act, a' = { a with defers := { target := .collected w.heap.size, args := #[] } :: a.defers } := ⟨_, rfl⟩
  have hD : DR R1 (d :: df) a'.defers := by rw [ha']; exact ⟨_, _, _, hdR, rfl, hs.D.mono hxx.le⟩
  have hFa : FR R1 N T a'.tmps := by rw [ha']; exact hs.F.mono hxx.le
  obtain ⟨hentf, hcalls⟩ := range_tail (n := n) (rb := none) (Q := Q) hcall hc hmB hlb (hca.mono hxx.le) hFa hD (hf'.after hxx (by omega)) (by omega) hxx (by omega) hle.1 hg hnb hj (fun id hi => mem_addW.2 (.inr (mem_addW.2 (.inl hi)))) (mem_addW.2 (.inl (by simp))) hQ
  rw [ha'] at hcalls
  refine ⟨w.heap.size + 1, [{ target := .collected w.heap.size, args := #[] }], w1, { target := .fn (.func g) ca, args := #[.func (.yield (w.heap.size + 1)) #[] #[]] }, w1, g, #[.func (.yield (w.heap.size + 1)) #[] #[]] ++ ca, w1, ?_, ?_, ?_, ?_, ?_, ?_⟩
  · exact hent
  · simp only [resolve, hev, Deferred.ofValue, Sem.run_pure]
    simp [Act.eval]
  · exact fun _ _ => trivial
  · simp only [invoke]
    exact hentf _ _
  · exact fun h => by cases h
  · exact hcalls
theorem evRange_inner {call : CallT} (hcall : CallOK P call) {n : Nat} {f : Operand} {ps : Array Tmp} {as body : Code} {T : Tr LV} {N : Nat} {H : Hp} {d mx : Nat} {wr df : List Nat} {g : FuncId} {cap : List LV} {s' : S} {e : Ex} {R : Ren} {a : Act} {w : World}
    {l₀ b0 c0 : Nat} {st0 : LoopState} {pend0 : Option Code} {N0 : Nat} {T0 : Tr LV} {ps0 : Array Tmp} {as0 body0 : Code} {d0 : Nat}
    (hfv : evO T f = some (.fn (.func g) [] cap)) (hs : St R ⟨T, N, H, d, wr, df, mx⟩ a w) (hf : Free R d s'.mx) (hr0 : R l₀ = some (b0, c0)) (hg0 : H.get l₀ = some (.loop st0 pend0 N0 T0 ps0 as0 body0 d0))
    (h : endRange d (d + 1) (fun nx' H wr mx => ⟨T, N, H, nx', wr, df, mx⟩) wr mx (call (.f g) (.yld d :: cap) (H.set d (some (.loop .ready none N T ps as body d0))) (d + 1)) = some (e, s')) :
    Comes' P (some b0) n (.rangeFunc f ps as body) R ⟨T, N, H, d, wr, df, mx⟩ a w e s' := by
  intro Q hQ
  obtain ⟨fi, ca, hev, hfi, hca⟩ := evO_ok hs.F hfv
  have hfi' : fi = #[] := by apply Array.toList_inj.1; exact hfi
  subst hfi'
  obtain ⟨r, st, pend, N', T', ps', as', body', d', hc, hg, hle, hnb, hj, rfl⟩ := endRange_ok h
  obtain ⟨b0', c0', hr0', fn0, tm0, db, dc, hb0, hd0, _⟩ := hs.M.at_ l₀ _ hg0
  rw [hr0] at hr0'; cases hr0'
  have hf' : Free R d r.mx := Free.less (b' := more' mx r.mx) hf (more'_le _ _).2
  have hle1 := hle.1
  have hle2 := hle.2
  have h0 : R d = none := hf' d (Nat.le_refl _) (by omega)
  refine wpIn_rangeFunc ?_
  intro fn _
  obtain ⟨w1, hw1⟩ : ∃ w1, w1 = w.alloc (.loop { state := .ready, pending := none, fn := fn, tmps := a.tmps, params := ps, assign := as, body, defers := db }) := ⟨_, rfl⟩
  obtain ⟨y1, y2, y3⟩ := heap_alloc' w (.loop { state := .ready, pending := none, fn := fn, tmps := a.tmps, params := ps, assign := as, body, defers := db })
  rw [← hw1] at y1 y2 y3
  have hmB := rel_new (c := 0) (o := .loop .ready none N T ps as body d0) hs.M h0 (by omega) y3 ⟨fn, a.tmps, db, dc, y2, le_upd h0 _ _ hd0, hs.F.mono (le_upd h0)⟩
  have hxx := ext_new (c := 0) (wr := addW [d] (addW r.o.wr wr)) h0 (by omega) y3 (by subst hw1; exact ⟨rfl, rfl, rfl⟩)
  have hent := run_enterLoop_inner (P := P) (w := w) hb0 fn a.tmps ps as body
  rw [← hw1] at hent
  obtain ⟨hentf, hcalls⟩ := range_tail (n := n) (rb := some b0) (Q := Q) (a' := a) hcall hc hmB (upd_same R d _) (hca.mono hxx.le) (hs.F.mono hxx.le) (hs.D.mono hxx.le) (hf'.after hxx (by omega)) (by omega) hxx (by omega) hle.1 hg hnb hj (fun id hi => mem_addW.2 (.inr (mem_addW.2 (.inl hi)))) (mem_addW.2 (.inl (by simp))) hQ
  refine ⟨w.heap.size, [], w1, { target := .fn (.func g) ca, args := #[.func (.yield w.heap.size) #[] #[]] }, w1, g, #[.func (.yield w.heap.size) #[] #[]] ++ ca, w1, ?_, ?_, ?_, ?_, ?_, ?_⟩
  · exact hent
  · simp only [resolve, hev, Deferred.ofValue, Sem.run_pure]
    simp [Act.eval]
  · exact fun _ _ => trivial
  · simp only [invoke]
    exact hentf _ _
  · exact fun h => by cases h
  · exact hcalls
theorem evRange_ok {call : CallT} (hcall : CallOK P call) {ro rb : Option Nat} {n : Nat} {f : Operand} {ps : Array Tmp} {as body : Code} {s s' : S} {e : Ex} {R : Ren} {a : Act} {w : World} (h : evRange call ro f ps as body s = some (e, s')) (hs : St R s a w) (hro : RO R ro rb) (hf : Free R s.nx s'.mx) :
    Comes' P rb n (.rangeFunc f ps as body) R s a w e s' := by
  obtain ⟨T, N, H, d, wr, df, mx⟩ := s
  simp only [evRange] at h
  split at h
  · rename_i g cap hfv
    split at h
    · simp only [nN_eq, Tr.force_eq] at h
      have hrb : rb = none := hro
      subst hrb
      exact evRange_outer hcall hfv hs hf h
    · rename_i l₀
      split at h
      · rename_i hg0
        simp only [nN_eq, Tr.force_eq] at h
        obtain ⟨b0, c0, hrb, hr0⟩ := hro
        subst hrb
        exact evRange_inner hcall hfv hs hf hr0 hg0 h
      · cases h
  · cases h
end Go.Rx
