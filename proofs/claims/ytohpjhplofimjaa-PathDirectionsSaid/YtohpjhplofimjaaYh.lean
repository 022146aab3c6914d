/-
  A symbolic run: regions that draw their order, whole. No program.
-/
import Derived.Test.YtohpjhplofimjaaYg
set_option linter.unusedSimpArgs false
set_option linter.unusedVariables false
set_option linter.unusedSectionVars false
namespace Go.Rx
open Go
variable {fs : Fs} {ov : Bool} {ν : Nm} {P : Program} {T : Al (SV (stdA fs ov))} {L : Tr LV} {M : SH (stdA fs ov)} {H : Hp} {snx nx : Nat}

theorem got_one {H : Hp} {r : Nat} {lo : LO} (h : H.get r = some lo) : (one H r).get r = some lo := by
  unfold one; rw [h]; exact Tr.get_set_same _ _ _
theorem delta_one {H : Hp} {r : Nat} {fo : List Nat} : delta H (ap' fo (rng r 0)) = delta H fo := by rw [ap'_eq]; simp [rng]
theorem delta_keys {H : Hp} : ∀ {l : List Nat} {x : Nat × Option LO}, x ∈ delta H l → x.1 ∈ l
  | [], x, h => by simp [delta] at h
  | y :: l, x, h => by
    rw [delta_cons] at h
    rcases List.mem_cons.1 h with rfl | h
    · simp
    · exact List.mem_cons_of_mem _ (delta_keys h)
theorem delta_nil {H : Hp} {l : List Nat} (h : l = []) : delta H l = [] := by subst h; rfl
theorem delta_ne {H : Hp} {l : List Nat} (h : delta H l ≠ []) : l ≠ [] := fun e => h (delta_nil e)
theorem scope_none {S : Nat → Bool} {ds : List (Nat × Del)} {op : Op} (hk : looks T op = none) : scopeOf L S H ds op = .l := by
  cases op
  case load t x => simp only [looks] at hk; split at hk <;> cases hk
  case store t x y => cases hk
  case call c =>
    obtain ⟨callee, args, ts⟩ := c
    cases callee with
    | value f => cases hk
    | invoke x m => rfl
    | builtin b => cases b <;> first | rfl | cases hk
  all_goals rfl
/-- One operation that is wanted. -/
theorem evDrawn_step {call : CallT} {ops : Array Oper} {ms : Tr Nat} {H₀ : Hp} {o : Oper} {rest : List Oper} {k N : Nat} {H₁ Hs : Hp} {df lw : List Nat} {mx m : Nat} {g : Log} {r : Res} {L' : Tr LV}
    (hw : want ops L o = some true) (hm : ms.get k = some m) (hs : scopeOf L m.testBit H₀ g.ds o.op = Hs) (he : evOp P call L Hs nx o.op = some r) (h1 : nx ≤ r.o.nx) (h2 : r.o.nx ≤ r.mx) (h3 : ∀ id ∈ r.o.wr, nx ≤ id ∨ ∃ o, Hs.get id = some o)
    (h4 : ∀ i fo, (i, fo) ∈ g.fs → m.testBit i = true ∨ seenIn Hs fo = false) (h5 : below nx r.o.wr ≠ [] → ∀ i Hi, (i, Hi) ∈ g.hs → m.testBit i = true) (hp : putT L N o.dst r.o.v = some L') :
    evDrawn P call ops ms H₀ (o :: rest) k ⟨L, N, H₁, nx, lw, df, mx⟩ g = evDrawn P call ops ms H₀ rest (k + 1) ⟨L', N, H₁, r.mx, addW r.o.wr lw, df, mx⟩ (Log.add k Hs (below nx r.o.wr) (delta r.o.H (ap' (below nx r.o.wr) (rng nx (r.o.nx - nx)))) g) := by
  obtain ⟨ds, hl, fl⟩ := g
  obtain ⟨⟨v, H', nx', wr'⟩, mx'⟩ := r
  simp only at hs he h1 h2 h3 h4 h5 hp
  have b1 : Nat.ble nx nx' = true := by simpa using h1
  have b2 : Nat.ble nx' mx' = true := by simpa using h2
  simp only [evDrawn, hw, hm, Tr.force_eq, hs, he, b1, b2, allIn_of h3, quiet_ok h4 h5, Bool.and_true, cond_true, hp, nN_eq]
  rfl
theorem sDrawn_ok {cs : CallS (stdA fs ov)} {call : CallT} (hc : CallSOK cs call) {ops : Array Oper} {ms : Tr Nat} {ν₀ : Nm} {snx₀ nx₀ : Nat} {H₀ H₁ : Hp} {W : Nat → Prop} {lw₀ wr₀ df : List Nat} {mx : Nat} {N : Nat} :
    ∀ {l : List Oper} {k rd al ws : Nat} {T : Al (SV (stdA fs ov))} {M : SH (stdA fs ov)} {snx : Nat} {wr : List Nat} {ν : Nm} {L : Tr LV} {nx : Nat} {lw : List Nat} {g : Log} {K : SS (stdA fs ov) → Prop}, sDrawn P cs ops ms snx₀ l k rd al ws ⟨T, N, M, snx, wr⟩ K →
      FS ν T L → Half W ν₀ snx₀ nx₀ H₀ lw₀ wr₀ ν M snx nx wr lw rd al ws g → ∃ L' nx' lw' g' ν' s' rd' al' ws', evDrawn P call ops ms H₀ l k ⟨L, N, H₁, nx, lw, df, mx⟩ g = some (⟨L', N, H₁, nx', lw', df, mx⟩, g') ∧ FS ν' s'.T L' ∧ Half W ν₀ snx₀ nx₀ H₀ lw₀ wr₀ ν' s'.H s'.nx nx' s'.wr lw' rd' al' ws' g' ∧ s'.N = N ∧ K s'
  | [], k, rd, al, ws, T, M, snx, wr, ν, L, nx, lw, g, K, h, hF, hh => ⟨L, nx, lw, g, ν, _, rd, al, ws, rfl, hF, hh, rfl, h⟩
  | o :: rest, k, rd, al, ws, T, M, snx, wr, ν, L, nx, lw, g, K, h, hF, hh => by
    simp only [sDrawn] at h
    rcases sWant_ok hF h with ⟨T', hw, hF, h⟩ | ⟨T', hw, hF, h⟩
    · cases hm : ms.get k with
      | none => simp only [hm] at h <;> exact h.elim
      | some m =>
        simp only [hm] at h
        cases hgo : mayGo m rd al ws snx₀ (looks T' o.op) with
        | false => simp only [hgo, cond_false] at h <;> exact h.elim
        | true =>
          simp only [hgo, cond_true] at h
          have hA : ∀ {S : Nat → Bool}, (∀ i, ws.testBit i = true → S i = true) → (∀ i, al.testBit i = true → S i = true) → heapOf S H₀ g.ds = heapOf tops H₀ g.ds := fun h1 h2 => heap_sub fun i D hi => (hh.bits i D hi).1.elim (h2 i) (h1 i)
          -- what is done behind an operation that has written nothing
          cases hk : looks T' o.op with
          | none =>
            simp only [hk] at h
            have hsc : scopeOf L m.testBit H₀ g.ds o.op = .l := scope_none hk
            rcases sOp_none (nx := nx) (call := call) hF hk h with ⟨v, lv, he, hv, h⟩ | ⟨so, lo, v, lv, f, he, hf, h, hO, hv⟩
            · obtain ⟨T2, L2, hp, hF2, h⟩ := sPut_ok hF h hv
              have b : Nat.beq snx snx = true := Nat.beq_refl _
              simp only [b] at h
              have hh' := half_add (k := k) (rd' := rd) (al' := al) (ws' := ws) (wr' := []) (lw' := []) (fo := []) (D := []) (Hs := .l) hh (fun _ _ => rfl) (fun id q o h1 h2 => by have := (hh.top.lt id q o h2).2; omega) (Nat.le_refl nx) (Nat.le_refl snx) hh.top (by simp) (by simp) (by simp) (by simp) (by simp) (by simp) (by simp) (fun _ h => h) (fun _ h => h) (fun _ h => h)
              obtain ⟨L', nx', lw', g', ν', s', rd', al', ws', e, r1⟩ := sDrawn_ok hc h hF2 hh'
              refine ⟨L', nx', lw', g', ν', s', rd', al', ws', ?_, r1⟩
              rw [evDrawn_step hw hm hsc (he .l) (Nat.le_refl _) (Nat.le_refl _) (by simp) (fun i fo _ => .inr seenIn_l) (by simp [below]) hp]
              have e0 : delta (.l : Hp) (ap' (below nx []) (rng nx (nx - nx))) = [] := delta_nil (by simp [below, ap', rng])
              rw [e0]
              exact e
            · simp only [sFresh, Al.force_eq] at h
              obtain ⟨h1, hle⟩ := hs_new hh.top hO
              have hF' : FS (updN ν snx (some (nx, 0))) T' L := ⟨fun t u hu => let ⟨lv, a, b⟩ := hF.at_ t u hu; ⟨lv, a, b.mono hle⟩⟩
              obtain ⟨T2, L2, hp, hF2, h⟩ := sPut_ok hF' h (hv _ updN_same)
              have b : Nat.beq (snx + 1) snx = false := (beq_false _ _).2 (by omega)
              simp only [b] at h
              have hlo : Lo snx ν (updN ν snx (some (nx, 0))) := fun id hid => updN_ne (by omega)
              have hh' := half_add (k := k) (rd' := rd) (al' := Nat.lor al (Nat.pow 2 k)) (ws' := ws) (wr' := []) (lw' := []) (fo := []) (D := [(nx, some lo)]) (Hs := .l) (ν' := updN ν snx (some (nx, 0))) (M' := M.set snx (some so)) (snx' := snx + 1) (mx' := nx + 1) hh hlo (fun id q o h1 h2 => by
                  by_cases e : id = snx
                  · subst e; rw [updN_same] at h2; cases h2; exact Nat.le_refl _
                  · rw [updN_ne e] at h2; have := (hh.top.lt _ _ _ h2).2; omega) (by omega) (by omega) (by rw [applyD_cons]; exact h1) (by simp) (by simp) (by simp) (by simp) (fun _ => .inl (or_bits.2 (.inr rfl))) (by simp) (by simp) (fun _ h => h) (fun _ h => or_bits.2 (.inl h)) (fun _ h => h)
              obtain ⟨L', nx', lw', g', ν', s', rd', al', ws', e, r1⟩ := sDrawn_ok hc h hF2 hh'
              refine ⟨L', nx', lw', g', ν', s', rd', al', ws', ?_, r1⟩
              have hev : evOp P call L .l nx o.op = some ⟨⟨lv, Tr.set .l nx (some lo), nx + 1, []⟩, nx + 1⟩ := by rw [he, fresh_eq, hf]; rfl
              rw [evDrawn_step hw hm hsc hev (by show nx ≤ nx + 1; omega) (Nat.le_refl _) (by simp) (fun i fo _ => .inr seenIn_l) (by simp [below]) hp]
              have e0 : delta (Tr.set (.l : Hp) nx (some lo)) (ap' (below nx []) (rng nx (nx + 1 - nx))) = [(nx, some lo)] := by
                have : ap' (below nx []) (rng nx (nx + 1 - nx)) = [nx] := by rw [show nx + 1 - nx = 1 by omega]; simp [below, ap', rng, nN_eq]
                rw [this, delta_cons, Tr.get_set_same]; rfl
              rw [e0]
              exact e
          | some lk =>
            simp only [hk] at h hgo
            have hws : ∀ i, ws.testBit i = true → m.testBit i = true := by
              cases lk <;> simp only [mayGo, Bool.and_eq_true] at hgo <;> exact sub_bits hgo.1
            have h4 : ∀ {Hs : Hp} i fo, (i, fo) ∈ g.fs → m.testBit i = true ∨ seenIn Hs fo = false := fun i fo hi => .inl (hws i (hh.fsb i fo hi))
            have hRd : (Nat.lor rd (Nat.pow 2 k)).testBit k = true := or_bits.2 (.inr rfl)
            cases lk with
            | some id₀ =>
              -- a load
              have hop : ∃ t x, o.op = .load t x := by
                revert hk
                cases ho : o.op <;> simp only [looks] <;> intro hk <;> try (first | cases hk | exact ⟨_, _, rfl⟩)
                rename_i c
                obtain ⟨callee, args, ts⟩ := c
                cases callee with
                | value f => cases hk
                | invoke x m => cases hk
                | builtin b => cases b <;> cases hk
              obtain ⟨t, x, hop⟩ := hop
              rw [hop] at h hk
              simp only [sOp] at h
              have hO : ∀ id so r o', evO L x = some (.p r o') → (∃ o'', ν id = some (r, o'')) → id = id₀ → M.get id = some so → OS ν (one (heapOf m.testBit H₀ g.ds) r) id so := by
                rintro id so r o' hx ⟨o'', hr⟩ rfl hg
                obtain ⟨hid, hO⟩ := hh.top.at_ id so hg
                have hget : ∀ lo, (heapOf tops H₀ g.ds).get r = some lo → (heapOf m.testBit H₀ g.ds).get r = some lo := fun lo hl => by
                  simp only [mayGo, Bool.and_eq_true, Bool.or_eq_true] at hgo
                  rcases hgo.2 with h1 | h1
                  · have hlt : id < snx₀ := by simpa using h1
                    have hr0 : r < nx₀ := (hh.lt0 id r o'' (by rw [← hh.lo id hlt]; exact hr)).1
                    rw [heap_old fun i D hi => (hh.bits i D hi).2.imp (hws i) fun hd x hx => by have := hd x hx; omega]
                    exact hl
                  · rw [hA hws (sub_bits h1)]; exact hl
                refine hO.same fun r1 o1 lo h1 h2 => ?_
                rw [hr] at h1; cases h1
                exact got_one (hget lo h2)
              obtain ⟨lx, hx⟩ : ∃ r o', evO L x = some (.p r o') ∧ ∃ o'', ν id₀ = some (r, o'') := by
                simp only [looks] at hk
                split at hk
                · rename_i id off hx
                  cases hk
                  obtain ⟨lx, a, r, b, rfl⟩ := sO_ok hF hx
                  exact ⟨r, off, a, 0, b⟩
                · rename_i id z i j hx
                  cases hk
                  obtain ⟨lx, a, r, o', b, _, rfl⟩ := sO_ok hF hx
                  exact ⟨r, _, a, o', b⟩
                · cases hk
              obtain ⟨o', hx, o'', hr⟩ := hx
              obtain ⟨v, lv, he, hv, h⟩ := sLoad_val (nx := nx) (H' := one (heapOf m.testBit H₀ g.ds) lx) hF (fun id so hl hg => by
                rw [hk] at hl
                exact hO id so lx o' hx ⟨o'', by cases hl; exact hr⟩ (by cases hl; rfl) hg) h
              obtain ⟨T2, L2, hp, hF2, h⟩ := sPut_ok hF h hv
              have b : Nat.beq snx snx = true := Nat.beq_refl _
              simp only [b] at h
              have hh' := half_add (k := k) (rd' := Nat.lor rd (Nat.pow 2 k)) (al' := al) (ws' := ws) (wr' := []) (lw' := []) (fo := []) (D := []) (Hs := one (heapOf m.testBit H₀ g.ds) lx) hh (fun _ _ => rfl) (fun id q o h1 h2 => by have := (hh.top.lt id q o h2).2; omega) (Nat.le_refl nx) (Nat.le_refl snx) hh.top (by simp) (by simp) (by simp) (fun _ => hRd) (by simp) (by simp) (by simp) (fun _ h => or_bits.2 (.inl h)) (fun _ h => h) (fun _ h => h)
              obtain ⟨L', nx', lw', g', ν', s', rd', al', ws', e, r1⟩ := sDrawn_ok hc h hF2 hh'
              refine ⟨L', nx', lw', g', ν', s', rd', al', ws', ?_, r1⟩
              have hev : evOp P call L (one (heapOf m.testBit H₀ g.ds) lx) nx o.op = some ⟨⟨lv, one (heapOf m.testBit H₀ g.ds) lx, nx, []⟩, nx⟩ := by rw [hop]; simp only [evOp, he, res]
              rw [evDrawn_step hw hm (by rw [hop]; simp only [scopeOf, hx]) hev (Nat.le_refl _) (Nat.le_refl _) (by simp) h4 (by simp [below]) hp]
              have e0 : delta (one (heapOf m.testBit H₀ g.ds) lx) (ap' (below nx []) (rng nx (nx - nx))) = [] := delta_nil (by simp [below, ap', rng])
              rw [e0]
              exact e
            | none =>
              have hal : ∀ i, al.testBit i = true → m.testBit i = true := by
                simp only [mayGo, Bool.and_eq_true] at hgo; exact sub_bits hgo.2
              have hE := hA hws hal
              -- what is common to stores and calls
              have common : ∀ {Hs : Hp} {r : Res} {ν' : Nm} {v : SV (stdA fs ov)} {M' : SH (stdA fs ov)} {snx' : Nat} {wr' : List Nat}, scopeOf L m.testBit H₀ g.ds o.op = Hs → evOp P call L Hs nx o.op = some r → r.o.nx ≤ r.mx → nx ≤ r.o.nx → snx ≤ snx' → Lo snx ν ν' → (∀ id q o, snx ≤ id → ν' id = some (q, o) → nx ≤ q) → VS ν' v r.o.v →
                  HS ν' M' snx' (applyD (heapOf tops H₀ g.ds) (delta r.o.H (ap' (below nx r.o.wr) (rng nx (r.o.nx - nx))))) r.mx → (∀ q ∈ r.o.wr, ∃ id ∈ wr', ∃ o, ν id = some (q, o)) → (∀ q ∈ r.o.wr, nx ≤ q ∨ ∃ o, Hs.get q = some o) → (∀ q o, Hs.get q = some o → (heapOf tops H₀ g.ds).get q = some o) → (r.o.nx ≠ nx → snx' ≠ snx) →
                  (sPut T' N o.dst v fun T => (match (Nat.lor rd (Nat.pow 2 k)), (match Nat.beq snx' snx with | true => al | false => Nat.lor al (Nat.pow 2 k)), wr' with
                    | rd', al', [] => sDrawn P cs ops ms snx₀ rest (k + 1) rd' al' ws ⟨T, N, M', snx', wr⟩ K
                    | rd', al', x :: l => bif Nat.beq (Nat.land rd m) rd && Nat.beq (Nat.land al m) al then sDrawn P cs ops ms snx₀ rest (k + 1) rd' al' (Nat.lor ws (Nat.pow 2 k)) ⟨T, N, M', snx', addW (x :: l) wr⟩ K else False)) →
                  ∃ L' nx' lw' g' ν' s' rd' al' ws', evDrawn P call ops ms H₀ (o :: rest) k ⟨L, N, H₁, nx, lw, df, mx⟩ g = some (⟨L', N, H₁, nx', lw', df, mx⟩, g') ∧ FS ν' s'.T L' ∧ Half W ν₀ snx₀ nx₀ H₀ lw₀ wr₀ ν' s'.H s'.nx nx' s'.wr lw' rd' al' ws' g' ∧ s'.N = N ∧ K s' := by
                intro Hs r ν' v M' snx' wr' hsc hev hmx hup hsup hlo hnw hv htop hwr hhas hsub hne h
                have hle := hh.top.le hlo
                have hF' : FS ν' T' L := ⟨fun t u hu => let ⟨lv, a, b⟩ := hF.at_ t u hu; ⟨lv, a, b.mono hle⟩⟩
                obtain ⟨T2, L2, hp, hF2, h⟩ := sPut_ok hF' h hv
                have hD : ∀ x ∈ delta r.o.H (ap' (below nx r.o.wr) (rng nx (r.o.nx - nx))), x.1 ∈ r.o.wr ∨ nx ≤ x.1 := fun x hx => by
                  have := delta_keys hx
                  rw [ap'_eq, List.mem_append] at this
                  rcases this with h | h
                  · exact .inl (mem_below.1 h).1
                  · exact .inr (mem_rng.1 h).1
                have hhas' : ∀ q ∈ r.o.wr, nx ≤ q ∨ ∃ o, (heapOf tops H₀ g.ds).get q = some o := fun q hq => (hhas q hq).imp_right fun ⟨o, h⟩ => ⟨o, hsub q o h⟩
                have hDne : delta r.o.H (ap' (below nx r.o.wr) (rng nx (r.o.nx - nx))) ≠ [] → r.o.wr ≠ [] ∨ r.o.nx ≠ nx := fun h1 => by
                  by_cases e : r.o.nx = nx
                  · refine .inl fun e2 => delta_ne h1 ?_
                    rw [e, e2]; simp [below, ap', rng]
                  · exact .inr e
                have halk : r.o.nx ≠ nx → (match Nat.beq snx' snx with | true => al | false => Nat.lor al (Nat.pow 2 k)).testBit k = true := fun h1 => by
                  rw [(beq_false _ _).2 (hne h1)]; exact or_bits.2 (.inr rfl)
                have mal : ∀ i, al.testBit i = true → (match Nat.beq snx' snx with | true => al | false => Nat.lor al (Nat.pow 2 k)).testBit i = true := fun i hi => by
                  cases Nat.beq snx' snx
                  · exact or_bits.2 (.inl hi)
                  · exact hi
                cases wr' with
                | nil =>
                  have hw0 : r.o.wr = [] := by
                    cases hq : r.o.wr with
                    | nil => rfl
                    | cons q l => obtain ⟨id, hid, _⟩ := hwr q (by rw [hq]; simp); cases hid
                  simp only at h
                  have hh' := half_add (k := k) (rd' := Nat.lor rd (Nat.pow 2 k)) (al' := (match Nat.beq snx' snx with | true => al | false => Nat.lor al (Nat.pow 2 k))) (ws' := ws) (wr' := []) (lw' := r.o.wr) (fo := below nx r.o.wr) (Hs := Hs) hh hlo hnw (Nat.le_trans hup hmx) hsup htop hwr hhas' hD (fun _ => hRd) (fun h1 => .inl (halk ((hDne h1).resolve_left (by simp [hw0])))) (fun h1 => absurd hw0 h1) (fun h1 => absurd (by rw [hw0]; rfl) h1) (fun _ h => or_bits.2 (.inl h)) mal (fun _ h => h)
                  obtain ⟨L', nx', lw', g', ν', s', rd', al', ws', e, r1⟩ := sDrawn_ok hc h hF2 hh'
                  refine ⟨L', nx', lw', g', ν', s', rd', al', ws', ?_, r1⟩
                  rw [evDrawn_step hw hm hsc hev hup hmx hhas h4 (fun h1 => absurd (by rw [hw0]; rfl) h1) hp]
                  exact e
                | cons x l =>
                  simp only at h
                  cases hb : (Nat.beq (Nat.land rd m) rd && Nat.beq (Nat.land al m) al)
                  · simp only [hb, cond_false] at h
                  · simp only [hb, cond_true] at h
                    simp only [Bool.and_eq_true] at hb
                    have hrd := sub_bits hb.1
                    have hh' := half_add (k := k) (rd' := Nat.lor rd (Nat.pow 2 k)) (al' := (match Nat.beq snx' snx with | true => al | false => Nat.lor al (Nat.pow 2 k))) (ws' := Nat.lor ws (Nat.pow 2 k)) (wr' := x :: l) (lw' := r.o.wr) (fo := below nx r.o.wr) (Hs := Hs) hh hlo hnw (Nat.le_trans hup hmx) hsup htop hwr hhas' hD (fun _ => hRd) (fun _ => .inr (or_bits.2 (.inr rfl))) (fun _ => or_bits.2 (.inr rfl)) (fun h1 e => h1 (by rw [e]; rfl)) (fun _ h => or_bits.2 (.inl h)) mal (fun _ h => or_bits.2 (.inl h))
                    obtain ⟨L', nx', lw', g', ν', s', rd', al', ws', e, r1⟩ := sDrawn_ok hc h hF2 hh'
                    refine ⟨L', nx', lw', g', ν', s', rd', al', ws', ?_, r1⟩
                    rw [evDrawn_step hw hm hsc hev hup hmx hhas h4 (fun _ i Hi hi => hrd i (hh.hsb i Hi hi)) hp]
                    exact e
              cases hop : o.op <;> rw [hop] at h hk <;> simp only [looks] at hk <;> try (cases hk; done)
              case load t x =>
                simp only [sOp, sLoad] at h
                split at h
                · rename_i h1; simp [h1] at hk
                · rename_i h1; simp [h1] at hk
                · exact h.elim
              case store t x y =>
                simp only [sOp] at h
                obtain ⟨r0, o0, hx0⟩ : ∃ r o, evO L x = some (.p r o) := by
                  have h' := h
                  unfold sStore at h'
                  split at h'
                  · rename_i hx _ _
                    obtain ⟨lx, a, r, b, rfl⟩ := sO_ok hF hx
                    exact ⟨r, _, a⟩
                  · exact h'.elim
                obtain ⟨id, r, u, cs0, cs', rs, hg, hr, ⟨o', hx⟩, ⟨lo, hlo⟩, hrs, he, h⟩ := sStore_val (nx := nx) (H' := one (heapOf m.testBit H₀ g.ds) r0) hF (fun id r o hr => (hh.top.lt id r o hr).1) (fun id so r o' hx hr hg => by
                  rw [hx0] at hx; cases hx
                  refine ((hh.top.at_ id so hg).2).same fun r1 o1 lo h1 h2 => ?_
                  rw [hr] at h1; cases h1
                  exact got_one (by rw [hE]; exact h2)) h
                have er : r = r0 := by rw [hx0] at hx; cases hx; rfl
                subst er
                refine common (Hs := one (heapOf m.testBit H₀ g.ds) r) (r := ⟨⟨.tup [], (one (heapOf m.testBit H₀ g.ds) r).set r (some (.row u rs)), nx, [r]⟩, nx⟩) (ν' := ν) (v := .tup []) (M' := M.set id (some (.row u cs'))) (snx' := snx) (wr' := [id]) (by rw [hop]; simp only [scopeOf, hx0]) (by rw [hop]; simp only [evOp, he, res]) (Nat.le_refl _) (Nat.le_refl _) (Nat.le_refl _) (fun _ _ => rfl) (fun id q o h1 h2 => by have := (hh.top.lt id q o h2).2; omega) ⟨[], rfl, rfl⟩ ?_ (fun q hq => ⟨id, by simp, 0, by simp at hq; subst hq; exact hr⟩) (fun q hq => by simp at hq; subst hq; exact .inr ⟨lo, hlo⟩) (fun q o hq => by
                    have : q = r := by
                      unfold one at hq
                      split at hq
                      · rw [Tr.get_set] at hq; split at hq
                        · assumption
                        · simp [Tr.get_l] at hq
                      · simp [Tr.get_l] at hq
                    subst this
                    unfold one at hq
                    split at hq
                    · rename_i o2 h2
                      rw [Tr.get_set_same] at hq; cases hq
                      rw [← hE]; exact h2
                    · simp [Tr.get_l] at hq) (fun h1 => absurd rfl h1) h
                have hrl : r < nx := (hh.top.lt id r 0 hr).1
                have e0 : delta ((one (heapOf m.testBit H₀ g.ds) r).set r (some (.row u rs))) (ap' (below nx [r]) (rng nx (nx - nx))) = [(r, some (.row u rs))] := by
                  have hb : Nat.blt r nx = true := by simpa using hrl
                  have : ap' (below nx [r]) (rng nx (nx - nx)) = [r] := by simp [below, hb, ap', rng]
                  rw [this, delta_cons, Tr.get_set_same]; rfl
                rw [e0, applyD_cons]
                exact hs_write hh.top hg rfl rfl hr ⟨r, rs, hr, Tr.get_set_same _ _ _, hrs⟩
              case call c =>
                obtain ⟨callee, args, ts⟩ := c
                cases callee with
                | invoke x m => cases hk
                | builtin b => cases b <;> first | (cases hk; done) | (simp only [sOp, sCallee] at h; split at h <;> first | exact h.elim | (simp only [sBuiltin] at h; exact h.elim))
                | value f =>
                  have hM : HS ν M snx (heapOf m.testBit H₀ g.ds) nx := by rw [hE]; exact hh.top
                  simp only [sOp] at h
                  obtain ⟨r, he, hmx, o1, ν', v, M', snx', wr', e1, hG, h⟩ := sCallee_ok (P := P) hc hF hM h
                  cases e1
                  refine common (Hs := heapOf m.testBit H₀ g.ds) (r := r) (ν' := ν') (v := v) (M' := M') (snx' := snx') (wr' := wr') (by rw [hop]; rfl) (by rw [hop]; simp only [evOp]; exact he) hmx hG.up hG.sup hG.lo hG.nw hG.v ?_ hG.wr (fun q hq => hG.has q hq) (fun q o hq => by rw [← hE]; exact hq) hG.same h
                  refine hG.hs.same (fun q hq => ?_) hmx
                  rw [get_applyD]
                  split
                  · rfl
                  · rename_i hn
                    rw [ap'_eq, List.mem_append, not_or] at hn
                    have hq' : q < nx := by
                      have := hn.2; rw [mem_rng] at this; have := hG.up; omega
                    rw [← hE]
                    exact (hG.keep q hq' fun hq2 => hn.1 (mem_below.2 ⟨hq2, hq'⟩)).symm
    · obtain ⟨T2, L2, hp, hF2, h⟩ := sPut_ok hF h (show VS ν (.tup []) (.tup []) from ⟨[], rfl, rfl⟩)
      obtain ⟨L', nx', lw', g', ν', s', rd', al', ws', e, r1⟩ := sDrawn_ok hc h hF2 hh
      refine ⟨L', nx', lw', g', ν', s', rd', al', ws', ?_, r1⟩
      obtain ⟨ds, hl, fl⟩ := g
      simp only [evDrawn, hw, hp, nN_eq]
      exact e
end Go.Rx
