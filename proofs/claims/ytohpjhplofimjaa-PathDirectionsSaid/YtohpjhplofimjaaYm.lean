/-
  A symbolic run: loops by invariants. No program.
-/
import Derived.Test.YtohpjhplofimjaaYl
set_option linter.unusedSimpArgs false
set_option linter.unusedVariables false
set_option linter.unusedSectionVars false
namespace Go.Rx
open Go
variable {fs : Fs} {ov : Bool} {ν : Nm} {P : Program} {W : Nat → Prop}

/-! ### What a text writes of the frame -/
theorem putT_frame {L L' : Tr LV} {N : Nat} {dst : Option Tmp} {v : LV} (h : putT L N dst v = some L') {t : Nat} (ht : ∀ d, dst = some d → t ≠ d) : L'.get t = L.get t := by
  cases dst with
  | none => simp [putT] at h; rw [← h]
  | some d =>
    simp only [putT] at h
    cases hb : Nat.blt d N
    · simp [hb] at h
    · simp [hb, Tr.force_eq] at h
      rw [← h, Tr.get_set_ne _ _ (ht d rfl)]
theorem dsts_cons {o : Oper} {l : List Oper} {t : Nat} (h : t ∉ dsts (o :: l)) : (∀ d, o.dst = some d → t ≠ d) ∧ t ∉ dsts l := by
  simp only [dsts] at h
  cases hd : o.dst with
  | none => rw [hd] at h; exact ⟨(fun d e => by cases e), h⟩
  | some d =>
    rw [hd] at h
    simp only [List.mem_cons, not_or] at h
    exact ⟨fun d' e => by cases e; exact h.1, h.2⟩
theorem evOps_frame {call : CallT} {ops : Array Oper} {t : Nat} : ∀ {l : List Oper} {s s' : Rx.S}, evOps P call ops l s = some s' → t ∉ dsts l → s'.T.get t = s.T.get t
  | [], s, s', h, _ => by simp [evOps] at h; rw [h]
  | o :: l, s, s', h, ht => by
    obtain ⟨h1, h2⟩ := dsts_cons ht
    rcases evOps_cons h with ⟨_, T', hp, h'⟩ | ⟨_, r, T', _, _, _, hp, h'⟩
    · rw [evOps_frame h' h2]; exact putT_frame hp h1
    · rw [evOps_frame h' h2]; exact putT_frame hp h1
theorem evDrawn_frame {call : CallT} {ops : Array Oper} {ms : Tr Nat} {H₀ : Hp} {t : Nat} : ∀ {l : List Oper} {k : Nat} {s s' : Rx.S} {g g' : Log}, evDrawn P call ops ms H₀ l k s g = some (s', g') → t ∉ dsts l → s'.T.get t = s.T.get t
  | [], k, s, s', g, g', h, _ => by simp [evDrawn] at h; rw [h.1]
  | o :: l, k, ⟨T, N, H₁, nx, wr, df, mx⟩, s', ⟨ds, hl, fl⟩, g', h, ht => by
    obtain ⟨h1, h2⟩ := dsts_cons ht
    simp only [evDrawn] at h
    split at h
    · cases h
    · split at h
      · rename_i T' hp
        rw [nN_eq] at h
        rw [evDrawn_frame h h2]; exact putT_frame hp h1
      · cases h
    · split at h
      · cases h
      · rw [Tr.force_eq] at h
        split at h
        · cases h
        · cases hb : (Nat.ble nx _ && Nat.ble _ _ && allIn _ nx _ && quietWith _ _ _ fl hl) <;> rw [hb] at h
          · cases h
          · simp only [cond_true] at h
            split at h
            · rename_i T' hp
              simp only [nN_eq] at h
              rw [evDrawn_frame h h2]; exact putT_frame hp h1
            · cases h
theorem evRegion_frame {call : CallT} {ops : Array Oper} {draw : Bool} {t : Nat} {s s' : Rx.S} {e : Ex} (h : evRegion P call ops draw s = some (e, s')) (ht : t ∉ dsts ops.toList) : s'.T.get t = s.T.get t := by
  have h' := (evRegion_up h).2.2
  cases draw with
  | true =>
    simp only [if_true] at h'
    obtain ⟨ms, s'', g, hr, hd, rfl⟩ := evDraw_eq h'
    have := evDrawn_frame (t := t) hd ht
    exact this
  | false =>
    simp only [Bool.false_eq_true, if_false] at h'
    exact evOps_frame h' ht
theorem evLoop_frame {f : Rx.S → Option (Ex × Rx.S)} {t : Nat} (hf : ∀ s e s', f s = some (e, s') → s'.T.get t = s.T.get t) : ∀ {n : Nat} {s s' : Rx.S} {e : Ex}, evLoop n f s = some (e, s') → s'.T.get t = s.T.get t
  | 0, s, s', e, h => by cases h
  | n + 1, s, s', e, h => by
    simp only [evLoop] at h
    split at h
    · rename_i s1 h1
      rw [evLoop_frame hf h, hf _ _ _ h1]
    · exact hf _ _ _ h
theorem evRange_frame {call : CallT} {ro : Option Nat} {f : Operand} {ps : Array Tmp} {as body : Code} {s s' : Rx.S} {e : Ex} (h : evRange call ro f ps as body s = some (e, s')) : s'.T = s.T := by
  obtain ⟨T, N, H, d, wr, df, mx⟩ := s
  simp only [evRange] at h
  split at h
  · split at h
    · simp only [nN_eq, Tr.force_eq] at h
      obtain ⟨r', st, pend, N', T', ps', as', body', d', _, _, hle, _, _, rfl⟩ := endRange_ok h
      rfl
    · split at h
      · simp only [nN_eq, Tr.force_eq] at h
        obtain ⟨r', st, pend, N', T', ps', as', body', d', _, _, hle, _, _, rfl⟩ := endRange_ok h
        rfl
      · cases h
  · cases h
theorem evC_frame {call : CallT} {ro : Option Nat} {L : Nat} {t : Nat} : ∀ {c : Code} {s s' : Rx.S} {e : Ex}, evC P call ro L c s = some (e, s') → t ∉ writes c → s'.T.get t = s.T.get t
  | .skip, s, s', e, h, _ => by simp [evC] at h; rw [h.2]
  | .region _ ops draw, s, s', e, h, ht => evRegion_frame (by simpa only [evC] using h) ht
  | .seq x y, s, s', e, h, ht => by
    simp only [writes, List.mem_append, not_or] at ht
    simp only [evC] at h
    cases hx : evC P call ro L x s with
    | none => simp [hx] at h
    | some q =>
      obtain ⟨e1, s1⟩ := q
      have h1 := evC_frame hx ht.1
      cases e1 <;> simp only [hx] at h
      case normal => rw [evC_frame h ht.2, h1]
      all_goals (simp at h; obtain ⟨_, rfl⟩ := h; exact h1)
  | .cond c x y, s, s', e, h, ht => by
    simp only [writes, List.mem_append, not_or] at ht
    simp only [evC] at h
    split at h
    · exact evC_frame h ht.1
    · exact evC_frame h ht.2
    · cases h
  | .block id c, s, s', e, h, ht => by
    simp only [evC] at h
    cases hx : evC P call ro L c s with
    | none => simp [hx] at h
    | some q =>
      obtain ⟨e1, s1⟩ := q
      have h1 := evC_frame hx ht
      cases e1 <;> simp only [hx] at h
      case exit j =>
        cases hb : Nat.beq j id <;> simp [hb] at h <;> obtain ⟨_, rfl⟩ := h <;> exact h1
      all_goals (simp at h; obtain ⟨_, rfl⟩ := h; exact h1)
  | .loop c, s, s', e, h, ht => by
    simp only [evC] at h
    exact evLoop_frame (f := fun s => evC P call ro L c s) (fun s e s' h => evC_frame h ht) h
  | .rangeFunc f ps as body, s, s', e, h, _ => by rw [evRange_frame (by simpa only [evC] using h)]
  | .exit id, s, s', e, h, _ => by simp [evC] at h; rw [h.2]
  | .scope c, s, s', e, h, ht => by
    simp only [evC] at h
    cases hx : evC P call ro L c s with
    | none => simp [hx] at h
    | some q =>
      obtain ⟨e1, s1⟩ := q
      have h1 := evC_frame hx ht
      cases e1 <;> simp [hx] at h <;> obtain ⟨_, rfl⟩ := h <;> exact h1
  | .label l, s, s', e, h, _ => by simp [evC] at h; rw [h.2]
  | .goto l, s, s', e, h, _ => by simp [evC] at h; rw [h.2]
  | .ret, s, s', e, h, _ => by simp [evC] at h; rw [h.2]
  | .refuse _, s, s', e, h, _ => by simp [evC] at h

/-! ### The rule -/
theorem get_wipe {α : Type} (T : Al α) : ∀ (ws : List Nat) (t : Nat), (wipe ws T).get t = if t ∈ ws then none else T.get t
  | [], t => by simp [wipe]
  | x :: ws, t => by
    simp only [wipe, Al.get_set, get_wipe T ws t]
    by_cases e : t = x
    · simp [e]
    · simp [e]
theorem get_push {α : Type} (T : Al α) : ∀ {l : List (Nat × α)} {t : Nat} {v : α}, (push l T).get t = some v → (t, v) ∈ l ∨ ((∀ x ∈ l, x.1 ≠ t) ∧ T.get t = some v)
  | [], t, v, h => .inr ⟨(fun x hx => by cases hx), h⟩
  | (k, x) :: l, t, v, h => by
    simp only [push, Al.get_set] at h
    split at h
    · rename_i e; subst e; cases h; exact .inl (by simp)
    · rename_i e
      rcases get_push T h with h | ⟨h1, h2⟩
      · exact .inl (by simp [h])
      · refine .inr ⟨fun x hx => ?_, h2⟩
        rcases List.mem_cons.1 hx with rfl | hx
        · exact fun h => e h.symm
        · exact h1 x hx
theorem subW_ok {l m : List Nat} (h : subW l m = true) : ∀ id ∈ l, id ∈ m := by
  induction l with
  | nil => intro id hid; cases hid
  | cons x l ih =>
    simp only [subW, Bool.and_eq_true] at h
    intro id hid
    rcases List.mem_cons.1 hid with rfl | hid
    · simpa using h.1
    · exact ih h.2 id hid
theorem gets_ok {α : Type} {T : Al α} : ∀ {ts : List Nat} {vs : List α}, gets T ts = some vs → ∀ x ∈ ts.zip vs, T.get x.1 = some x.2
  | [], vs, h, x, hx => by simp at hx
  | t :: ts, vs, h, x, hx => by
    simp only [gets] at h
    cases h1 : T.get t with
    | none => simp [h1] at h
    | some v =>
      cases h2 : gets T ts with
      | none => simp [h1, h2] at h
      | some r =>
        simp [h1, h2] at h; subst h
        simp only [List.zip_cons_cons, List.mem_cons] at hx
        rcases hx with rfl | hx
        · exact h1
        · exact gets_ok h2 x hx
section
variable {s : SS (stdA fs ov)} {S : Rx.S} {c : Code} {B : List Nat}
/-- What has been read off a later state holds of the state that is laid anew. -/
theorem sim_hd {ν' : Nm} {s' : SS (stdA fs ov)} {S' : Rx.S} {W' W0 : Nat → Prop} (hs : Sim W0 ν s S) (hx : XT ν (⟨s.T, s.N, s.H, s.nx, []⟩ : SS (stdA fs ov)) S ν' s' S') (hs' : Sim W' ν' s' S') (hfr : ∀ t, t ∉ writes c → S'.T.get t = S.T.get t) (hN : S'.N = S.N) (hw : ∀ id ∈ s'.wr, id < s.nx → id ∈ B)
    {sl : List (Nat × SV (stdA fs ov))} {bl : List (Nat × SO (stdA fs ov))} (h1 : ∀ x ∈ sl, s'.T.get x.1 = some x.2 ∧ x.2.lt s.nx = true) (h2 : ∀ x ∈ bl, s'.H.get x.1 = some x.2 ∧ x.2.lt s.nx = true) (hB : ∀ id ∈ B, ∃ x ∈ bl, x.1 = id) (hBm : ∀ id ∈ B, ∃ so, s.H.get id = some so ∧ so.mine = true) (hbm : ∀ x ∈ bl, x.1 ∈ B ∧ x.2.mine = true)
    {wr : List Nat} (hwr : ∀ q ∈ S'.wr, W q ∨ ∃ id ∈ wr, ∃ o, ν id = some (q, o)) (hup : ∀ q, S'.nx ≤ q → W q) : Sim W ν (hdS c s sl bl wr) S' := by
  refine ⟨hN.trans hs.N, ⟨fun t v hv => ?_⟩, ⟨fun id so hg => ?_, fun id r o h => ?_, fun id id' r o o' so hg hm h3 h4 => ?_⟩, hs'.mx, hwr, hup⟩
  · rcases get_push _ hv with hv | ⟨_, hv⟩
    · obtain ⟨a, b⟩ := h1 _ hv
      obtain ⟨lv, d, e⟩ := hs'.T.at_ t v a
      exact ⟨lv, d, vs_low hx.lo b e⟩
    · rw [get_wipe] at hv
      split at hv
      · cases hv
      · rename_i hn
        obtain ⟨lv, a, b⟩ := hs.T.at_ t v hv
        exact ⟨lv, by rw [hfr t hn]; exact a, b⟩
  · rcases get_push _ hg with hg | ⟨hno, hg⟩
    · obtain ⟨a, b⟩ := h2 _ hg
      obtain ⟨so1, c1, _⟩ := hBm id (hbm _ hg).1
      have hid := (hs.H.at_ id so1 c1).1
      exact ⟨hid, (hs'.H.at_ id so a).2.low hx.lo hid b⟩
    · obtain ⟨a, b⟩ := hs.H.at_ id so hg
      refine ⟨a, b.same fun r o lo hr hl => ?_⟩
      have hrS := (hs.H.lt id r o hr).1
      rw [hx.keepS r hrS fun id2 hid2 o2 he => ?_]
      · exact hl
      · by_cases hlt : id2 < s.nx
        · have hB2 := hw id2 hid2 hlt
          obtain ⟨so2, c1, c2⟩ := hBm id2 hB2
          rw [hx.lo id2 hlt] at he
          have := hs.H.inj id2 id r o2 o so2 c1 c2 he hr
          subst this
          obtain ⟨x, d1, d2⟩ := hB id2 hB2
          exact hno x d1 d2
        · have := hx.nw id2 r o2 (by show s.nx ≤ id2; omega) he
          omega
  · have h' := hs.H.lt id r o h
    exact ⟨Nat.lt_of_lt_of_le h'.1 hx.up, h'.2⟩
  · have hid : ∃ so1, s.H.get id = some so1 ∧ so1.mine = true := by
      rcases get_push _ hg with hg | ⟨_, hg⟩
      · exact hBm id (hbm _ hg).1
      · exact ⟨so, hg, hm⟩
    obtain ⟨so1, c1, c2⟩ := hid
    exact hs.H.inj id id' r o o' so1 c1 c2 h3 h4
theorem ltO_ok {n : Nat} : ∀ {os : List (SO (stdA fs ov))}, ltO n os = true → ∀ o ∈ os, o.lt n = true
  | [], _, o, h => by cases h
  | x :: l, h, o, ho => by
    simp only [ltO, Bool.and_eq_true] at h
    rcases List.mem_cons.1 ho with rfl | ho
    · exact h.1
    · exact ltO_ok h.2 o ho
theorem ltL_ok {n : Nat} : ∀ {vs : List (SV (stdA fs ov))}, SV.ltL n vs = true → ∀ o ∈ vs, o.lt n = true
  | [], _, o, h => by cases h
  | x :: l, h, o, ho => by
    simp only [SV.ltL, Bool.and_eq_true] at h
    rcases List.mem_cons.1 ho with rfl | ho
    · exact h.1
    · exact ltL_ok h.2 o ho
theorem loop_rule {cs : CallS (stdA fs ov)} {call : CallT} (hc : CallSOK cs call) {root : Code} {lp : LoopS (stdA fs ov)} {L U : Nat} (hl : LoopsOK P call L root lp) (hU : U ≤ L) {ro : Option Nat} {p : List Bool} (hp : codeAt root p = some (.loop c))
    {X : Type} {Inv : X → Prop} {μ : X → Nat} {ts : Ex → List Nat} {sl : X → List (SV (stdA fs ov))} {bl : X → List (SO (stdA fs ov))} {Q : Ex → List (SV (stdA fs ov)) → List (SO (stdA fs ov)) → Prop} {K : Ex → SS (stdA fs ov) → Prop}
    (hbl : ∀ x, (bl x).length = B.length ∧ ∀ o ∈ bl x, o.mine = true) (hBm : ∀ id ∈ B, ∃ so, s.H.get id = some so ∧ so.mine = true)
    (hb : ∀ x, Inv x → sCode P cs lp U (false :: p) c (hdS c s ((ts .normal).zip (sl x)) (B.zip (bl x)) []) (outK s.nx ts B fun e vs os => match e with
      | .normal => ∃ x', Inv x' ∧ μ x' < μ x ∧ vs = sl x' ∧ os = bl x'
      | e => os.length = B.length ∧ (∀ o ∈ os, o.mine = true) ∧ Q e vs os))
    (hK : ∀ e vs os, e ≠ .normal → Q e vs os → K e (hdS c s ((ts e).zip vs) (B.zip os) (addW B s.wr)))
    {W : Nat → Prop} {ν : Nm} {S : Rx.S} {x : X} (hx : Inv x) (hμ : μ x < L) (h1 : ∀ y ∈ (ts .normal).zip (sl x), s.T.get y.1 = some y.2 ∧ y.2.lt s.nx = true) (h2 : ∀ y ∈ B.zip (bl x), s.H.get y.1 = some y.2 ∧ y.2.lt s.nx = true) (hs : Sim W ν s S) : GoC W ν s S K (evLoop L (fun s => evC P call ro L c s) S) := by
  have mem_zip : ∀ {os : List (SO (stdA fs ov))}, os.length = B.length → ∀ id ∈ B, ∃ y ∈ B.zip os, y.1 = id := by
    intro os ho id hid
    obtain ⟨i, hi, rfl⟩ := List.getElem_of_mem hid
    exact ⟨(B[i], os[i]'(by omega)), by rw [List.mem_iff_getElem]; exact ⟨i, by simp; omega, by simp⟩, rfl⟩
  have zip_mine : ∀ {os : List (SO (stdA fs ov))}, (∀ o ∈ os, o.mine = true) → ∀ y ∈ B.zip os, y.1 ∈ B ∧ y.2.mine = true := fun hm y hy => by
    obtain ⟨a, b⟩ := y
    exact ⟨(List.of_mem_zip hy).1, hm b (List.of_mem_zip hy).2⟩
  have hB1 : ∀ id ∈ B, id < s.nx := fun id hid => by obtain ⟨so, h, _⟩ := hBm id hid; exact (hs.H.at_ id so h).1
  have hnw : ∀ id q o, s.nx ≤ id → ν id = some (q, o) → S.nx ≤ q := fun id q o h1 h2 => by have := (hs.H.lt id q o h2).2; omega
  -- the rounds, from a head state on
  have key : ∀ (n : Nat) (x : X) (S1 : Rx.S), Inv x → μ x < n → XT ν (⟨s.T, s.N, s.H, s.nx, []⟩ : SS (stdA fs ov)) S ν (hdS c s ((ts .normal).zip (sl x)) (B.zip (bl x)) B) S1 → (∀ t, t ∉ writes c → S1.T.get t = S.T.get t) → Sim (fun q => q ∈ S1.wr ∨ S1.nx ≤ q) ν (hdS c s ((ts .normal).zip (sl x)) (B.zip (bl x)) []) S1 → (∀ q ∈ S1.wr, q ∈ S.wr ∨ S.nx ≤ q ∨ ∃ id ∈ B, ∃ o, ν id = some (q, o)) → GoC W ν s S K (evLoop n (fun s => evC P call ro L c s) S1) := by
    intro n
    induction n with
    | zero => intro x S1 _ h; omega
    | succ n ih =>
      intro x S1 hi hm hxt hfr hsim hwr
      obtain ⟨e, S2, ν2, s2, k1, k2, k3, k4⟩ := sCode_ok (ro := ro) hc hl hU (hb x hi) (by simp [codeAt, hp]) hsim
      simp only [outK] at k4
      split at k4
      · rename_i vs os hvs hos
        cases hbb : (Nat.ble s.nx s2.nx && subW (below s.nx s2.wr) B && SV.ltL s.nx vs && ltO s.nx os) with
        | false => simp only [hbb, cond_false] at k4 <;> exact k4.elim
        | true =>
          simp only [hbb, cond_true] at k4
          simp only [Bool.and_eq_true] at hbb
          obtain ⟨⟨⟨hn, hw⟩, hvl⟩, hol⟩ := hbb
          have hw : ∀ id ∈ s2.wr, id < s.nx → id ∈ B := fun id h1 h2 => subW_ok hw id (mem_below.2 ⟨h1, h2⟩)
          have hfr2 : ∀ t, t ∉ writes c → S2.T.get t = S.T.get t := fun t ht => by rw [evC_frame k1 ht, hfr t ht]
          have hup := evC_up k1
          have hN : S2.N = S.N := by
            have a := hup.N; have b := hsim.N; have d := hs.N
            rw [a, b, d]
          -- from the entry on
          have hx2 : XT ν (⟨s.T, s.N, s.H, s.nx, []⟩ : SS (stdA fs ov)) S ν2 ⟨s2.T, s2.N, s2.H, s2.nx, ap' B s2.wr⟩ S2 := by
            have k2' : XT ν (hdS c s ((ts .normal).zip (sl x)) (B.zip (bl x)) B) S1 ν2 ⟨s2.T, s2.N, s2.H, s2.nx, ap' B s2.wr⟩ S2 :=
              ⟨k2.lo, k2.nw, k2.up, k2.sup, k2.wr, fun id h => (by rw [ap'_eq]; exact List.mem_append_left _ h), fun q hq hn => k2.keepS q hq fun id hid => hn id (by rw [ap'_eq]; exact List.mem_append_right _ hid), k2.keep, k2.has, k2.df⟩
            exact hxt.trans (W := fun q => q ∈ S1.wr ∨ S1.nx ≤ q) ⟨hsim.N, hsim.T, hsim.H, hsim.mx, fun q hq => .inl (.inl hq), fun q hq => .inr hq⟩ k2'
          have hwB : ∀ id ∈ ap' B s2.wr, id < s.nx → id ∈ B := fun id h1 h2 => by
            rw [ap'_eq] at h1
            exact (List.mem_append.1 h1).elim (fun h => h) fun h => hw id h h2
          have hwr2 : ∀ q ∈ S2.wr, q ∈ S.wr ∨ S.nx ≤ q ∨ ∃ id ∈ B, ∃ o, ν id = some (q, o) := fun q hq => by
            rcases k3.wr q hq with (h | h) | ⟨id, h1, o, h2⟩
            · exact hwr q h
            · exact .inr (.inl (Nat.le_trans hxt.up h))
            · by_cases hlt : id < s.nx
              · exact .inr (.inr ⟨id, hw id h1 hlt, o, by rw [← hx2.lo id hlt]; exact h2⟩)
              · exact .inr (.inl (hx2.nw id q o (by show s.nx ≤ id; omega) h2))
          have lay : ∀ {vs os ts'} {wr : List Nat} {W2 : Nat → Prop}, gets s2.T ts' = some vs → SV.ltL s.nx vs = true → ltO s.nx os = true → os.length = B.length → (∀ o ∈ os, SO.mine o = true) → gets s2.H B = some os → (∀ q ∈ S2.wr, W2 q ∨ ∃ id ∈ wr, ∃ o, ν id = some (q, o)) → (∀ q, S2.nx ≤ q → W2 q) → Sim W2 ν (hdS c s (ts'.zip vs) (B.zip os) wr) S2 := by
            intro vs os ts' wr W2 a1 b1 b2 a2 a3 a4 a5 a6
            exact sim_hd (W := W2) (B := B) hs hx2 (W' := fun q => q ∈ S2.wr ∨ S2.nx ≤ q) ⟨k3.N, k3.T, k3.H, k3.mx, fun q hq => .inl (.inl hq), fun q hq => .inr hq⟩ hfr2 hN hwB (fun y hy => ⟨gets_ok a1 y hy, ltL_ok b1 _ (List.of_mem_zip (show (y.1, y.2) ∈ _ from hy)).2⟩) (fun y hy => ⟨gets_ok a4 y hy, ltO_ok b2 _ (List.of_mem_zip (show (y.1, y.2) ∈ _ from hy)).2⟩) (mem_zip a2) hBm (zip_mine a3) a5 a6
          have same : ∀ {s3 : SS (stdA fs ov)} {s4 : SS (stdA fs ov)}, s3.nx = s.nx → s4.nx = s.nx → (∀ id ∈ s3.wr, id ∈ s4.wr) → (∀ id ∈ B, id ∈ s4.wr) → XT ν s3 S ν s4 S2 := fun {s3 s4} a1 a2 a3 a4 =>
            ⟨fun _ _ => rfl, fun id q o h1 h2 => hnw id q o (by rw [← a1]; exact h1) h2, hx2.up, by rw [a1, a2]; exact Nat.le_refl _, hx2.wr, a3, fun q hq hn => hx2.keepS q hq fun id hid o he => by
              by_cases hlt : id < s.nx
              · rw [hx2.lo id hlt] at he
                exact hn id (a4 id (hwB id hid hlt)) o he
              · have := hx2.nw id q o (by show s.nx ≤ id; omega) he; omega, hx2.keep, hx2.has, hx2.df⟩
          have stop : e ≠ .normal → os.length = B.length → (∀ o ∈ os, SO.mine o = true) → Q e vs os → GoC W ν s S K (some (e, S2)) := fun he a2 a3 hQ => by
            refine ⟨e, S2, ν, hdS c s ((ts e).zip vs) (B.zip os) (addW B s.wr), rfl, same rfl rfl (fun id hid => mem_addW.2 (.inr hid)) (fun id hid => mem_addW.2 (.inl hid)), lay (wr := addW B s.wr) (W2 := W) hvs hvl hol a2 a3 hos (fun q hq => ?_) (fun q hq => hs.wup q (Nat.le_trans hx2.up hq)), hK e vs os he hQ⟩
            rcases hwr2 q hq with h | h | ⟨id, h1, o, h2⟩
            · rcases hs.wr q h with h | ⟨id, h1, o, h2⟩
              · exact .inl h
              · exact .inr ⟨id, mem_addW.2 (.inr h1), o, h2⟩
            · exact .inl (hs.wup q h)
            · exact .inr ⟨id, mem_addW.2 (.inl h1), o, h2⟩
          simp only [evLoop, k1]
          cases e with
          | normal =>
            obtain ⟨x', i1, i2, rfl, rfl⟩ := k4
            have hb' := hbl x'
            exact ih x' S2 i1 (by omega) (same rfl rfl (fun _ h => by cases h) (fun _ h => h)) hfr2 (lay (W2 := fun q => q ∈ S2.wr ∨ S2.nx ≤ q) (wr := []) hvs hvl hol hb'.1 hb'.2 hos (fun q hq => .inl (.inl hq)) (fun q hq => .inr hq)) hwr2
          | exit j => exact stop (by simp) k4.1 k4.2.1 k4.2.2
          | goto j => exact stop (by simp) k4.1 k4.2.1 k4.2.2
          | ret => exact stop (by simp) k4.1 k4.2.1 k4.2.2
      · exact k4.elim
  have h0 : XT ν (⟨s.T, s.N, s.H, s.nx, []⟩ : SS (stdA fs ov)) S ν (⟨s.T, s.N, s.H, s.nx, []⟩ : SS (stdA fs ov)) S := XT.refl hs.H
  have hb' := hbl x
  refine key L x S hx hμ ⟨h0.lo, h0.nw, h0.up, Nat.le_refl _, h0.wr, (fun _ h => by cases h), (fun q _ _ => rfl), h0.keep, h0.has, h0.df⟩ (fun _ _ => rfl) ?_ fun q hq => .inl hq
  exact sim_hd (W := fun q => q ∈ S.wr ∨ S.nx ≤ q) (B := B) (W' := fun q => q ∈ S.wr ∨ S.nx ≤ q) hs h0 ⟨hs.N, hs.T, hs.H, hs.mx, fun q hq => .inl (.inl hq), fun q hq => .inr hq⟩ (fun _ _ => rfl) rfl (fun _ h => by cases h) h1 h2 (mem_zip hb'.1) hBm (zip_mine hb'.2) (fun q hq => .inl (.inl hq)) (fun q hq => .inr hq)
end
end Go.Rx
