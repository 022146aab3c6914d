/-
  A symbolic run: what a call leaves; calls. No program.
-/
import Derived.Test.YtohpjhplofimjaaYi
set_option linter.unusedSimpArgs false
set_option linter.unusedVariables false
set_option linter.unusedSectionVars false
namespace Go.Rx
open Go
variable {fs : Fs} {ov : Bool} {ν : Nm} {P : Program} {T : Al (SV (stdA fs ov))} {L : Tr LV} {M : SH (stdA fs ov)} {H : Hp} {snx nx : Nat} {W : Nat → Prop}

theorem hs_back (hM : HS ν M snx H nx) {ν' : Nm} {M' M1 : SH (stdA fs ov)} {snx' nx' n : Nat} {H' H2 : Hp} {lw : List Nat} {wr : List Nat} (hM' : HS ν' M' snx' H' nx') (hlo : Lo snx ν ν') (hnw : ∀ id q o, snx ≤ id → ν' id = some (q, o) → nx ≤ q)
    (hw : ∀ q ∈ lw, q < nx → ∃ id ∈ wr, ∃ o, ν' id = some (q, o)) (hk : ∀ q, q < nx → q ∉ lw → H'.get q = H.get q) (hb : sBack snx M' (below snx wr) M = some M1) (h2 : ∀ q, q < nx → H2.get q = H'.get q) (hn : nx ≤ n) {m : Nat} (hm : snx ≤ m) : HS ν M1 m H2 n := by
  obtain ⟨b1, b2⟩ := sBack_ok hb
  have hlt : ∀ {id r o}, ν id = some (r, o) → r < nx := fun h => (hM.lt _ _ _ h).1
  refine ⟨fun id so hg => ?_, fun id r o h => ⟨Nat.lt_of_lt_of_le (hM.lt id r o h).1 hn, Nat.lt_of_lt_of_le (hM.lt id r o h).2 hm⟩, fun id id' r o o' so h1 h3 h4 h5 => ?_⟩
  · by_cases hid : id ∈ below snx wr
    · obtain ⟨o', m1, m2, o, m3, m4, m5⟩ := b2 id hid
      rw [hg] at m4; cases m4
      have hidn := (mem_below.1 hid).2
      refine ⟨by omega, ?_⟩
      exact (((hM'.at_ id so m3).2).low hlo hidn m5).same fun r o lo e1 e2 => by rw [h2 r (hlt e1)]; exact e2
    · rw [b1 id hid] at hg
      obtain ⟨hidn, hO⟩ := hM.at_ id so hg
      refine ⟨by omega, hO.same fun r o lo e1 e2 => ?_⟩
      rw [h2 r (hlt e1), hk r (hlt e1) fun hr => ?_]
      · exact e2
      · obtain ⟨id2, k1, o2, k2⟩ := hw r hr (hlt e1)
        have hid2 : id2 < snx := by
          by_cases h : id2 < snx
          · exact h
          · have := hnw id2 r o2 (by omega) k2; have := hlt e1; omega
        obtain ⟨o', m1, m2, _⟩ := b2 id2 (mem_below.2 ⟨k1, hid2⟩)
        rw [hlo id2 hid2] at k2
        have := hM.inj id2 id r o2 o o' m1 m2 k2 e1
        subst this
        exact hid (mem_below.2 ⟨k1, hid2⟩)
  · by_cases hid : id ∈ below snx wr
    · obtain ⟨o1, m1, m2, _⟩ := b2 id hid
      exact hM.inj id id' r o o' o1 m1 m2 h4 h5
    · rw [b1 id hid] at h1
      exact hM.inj id id' r o o' so h1 h3 h4 h5
theorem sLeave_ok (hM : HS ν M snx H nx) {ν' : Nm} {M' : SH (stdA fs ov)} {snx' nx' : Nat} {H' : Hp} {lw : List Nat} {wr : List Nat} {v : SV (stdA fs ov)} {lv : LV} {K : KS (stdA fs ov)} (hM' : HS ν' M' snx' H' nx') (hlo : Lo snx ν ν') (hnw : ∀ id q o, snx ≤ id → ν' id = some (q, o) → nx ≤ q) (hup : nx ≤ nx')
    (hw : ∀ q ∈ lw, q < nx → ∃ id ∈ wr, ∃ o, ν' id = some (q, o)) (hk : ∀ q, q < nx → q ∉ lw → H'.get q = H.get q) (hhas : ∀ q ∈ lw, nx ≤ q ∨ ∃ o, H.get q = some o) (hv : VS ν' v lv) (h : sLeave snx M v M' snx' wr K) :
    ∃ ν2 v2 M2 snx2 wr2, Got ν snx H nx ν2 v2 M2 snx2 wr2 (gc nx H lv H' nx' lw) ∧ K v2 M2 snx2 wr2 ∧ (gc nx H lv H' nx' lw).nx ≤ nx' := by
  obtain ⟨o, ho, g1, g2, g3, g4, g5, g6, g7⟩ := gc_eq (lv := lv) (nx' := nx') hk hup
  rw [ho]
  have hw' : ∀ q ∈ below nx lw, ∃ id ∈ below snx wr, ∃ o, ν id = some (q, o) := fun q hq => by
    obtain ⟨hq1, hq2⟩ := mem_below.1 hq
    obtain ⟨id, k1, o, k2⟩ := hw q hq1 hq2
    have hid : id < snx := by
      by_cases h : id < snx
      · exact h
      · have := hnw id q o (by omega) k2; omega
    exact ⟨id, mem_below.2 ⟨k1, hid⟩, o, by rw [← hlo id hid]; exact k2⟩
  have hhas' : ∀ q ∈ o.wr, nx ≤ q ∨ ∃ o, H.get q = some o := fun q hq => hhas q (by rw [g2] at hq; exact (mem_below.1 hq).1)
  have hkeep : ∀ q, q < nx → q ∉ o.wr → o.H.get q = H.get q := fun q hq hn => by
    rw [g3 q hq]
    exact hk q hq fun h => hn (by rw [g2]; exact mem_below.2 ⟨h, hq⟩)
  have hnw0 : ∀ id q o, snx ≤ id → ν id = some (q, o) → nx ≤ q := fun id q o h1 h2 => by have := (hM.lt id q o h2).2; omega
  simp only [sLeave] at h
  cases hb : sBack snx M' (below snx wr) M with
  | none => simp only [hb] at h <;> exact h.elim
  | some M1 =>
    simp only [hb] at h
    cases hvl : v.lt snx with
    | true =>
      simp only [hvl, cond_true, Al.force_eq] at h
      have hlv : lv.lt nx = true := vs_lt (n := snx) (fun id r o h1 h2 => by rw [hlo id h1] at h2; exact (hM.lt id r o h2).1) hvl hv
      have hv2 : VS ν v o.v := by rw [g1]; exact vs_low hlo hvl hv
      cases hwr : below snx wr with
      | nil =>
        rw [hwr] at h hw'
        have hb0 : below nx lw = [] := by
          cases hq : below nx lw with
          | nil => rfl
          | cons q l => obtain ⟨id, hid, _⟩ := hw' q (by rw [hq]; simp); cases hid
        have e := g6 hb0 hlv
        refine ⟨ν, v, M1, snx, [], ⟨fun _ _ => rfl, hnw0, g4, Nat.le_refl _, hs_back hM hM' hlo hnw hw hk hb g3 g4 (Nat.le_refl _), hv2, fun q hq => ?_, hkeep, hhas', fun h1 => absurd e h1⟩, h, g5⟩
        rw [g2, hb0] at hq; cases hq
      | cons x l =>
        rw [hwr] at h hw'
        refine ⟨ν, v, M1, snx + 1, x :: l, ⟨fun _ _ => rfl, hnw0, g4, by omega, hs_back hM hM' hlo hnw hw hk hb g3 g4 (by omega), hv2, fun q hq => ?_, hkeep, hhas', fun _ => by omega⟩, h, g5⟩
        rw [g2] at hq; exact hw' q hq
    | false =>
      simp only [hvl, cond_false] at h
      -- a slice that is new
      have key : ∀ {id : Nat} {n : Int} {lv1 : LV} {t : TypeId} {ks : List CK} {hh : Ll}, below snx wr = [] → M'.get id = some (.list t ks true hh) → n = hh.length → LSr (ν' id) true n lv1 → SV.lt (A := stdA fs ov) snx (.ls true id n) = false → lv.lt nx = lv1.lt nx →
          ∃ ν2, Lo snx ν ν2 ∧ (∀ id q o, snx ≤ id → ν2 id = some (q, o) → nx ≤ q) ∧ HS ν2 (M1.set snx (some (.list t ks true hh))) (snx + 1) o.H o.nx ∧ LSr (ν2 snx) true n lv1 ∧ o.wr = [] := by
        intro id n lv1 t ks hh hwr hg hn hls hid hlt
        have hid : snx ≤ id := by
          rcases Nat.lt_or_ge id snx with h | h
          · have e : Nat.blt id snx = true := by simpa using h
            rw [show SV.lt (A := stdA fs ov) snx (.ls true id n) = Nat.blt id snx from rfl, e] at hid; cases hid
          · exact h
        have hb0 : below nx lw = [] := by
          cases hq : below nx lw with
          | nil => rfl
          | cons q l => obtain ⟨i, hi, _⟩ := hw' q (by rw [hq]; simp); rw [hwr] at hi; cases hi
        have hO := (hM'.at_ id _ hg).2
        have h0 := hs_back hM hM' hlo hnw hw hk hb g3 g4 (show snx ≤ snx + 1 by omega)
        have hns : ∀ q o, ν snx ≠ some (q, o) := fun q o h => by have := (hM.lt snx q o h).2; omega
        obtain ⟨hn0, ⟨rfl, hz⟩ | ⟨r, off, hr, ⟨rfl, rfl⟩ | ⟨hf, _⟩⟩⟩ := hls
        · -- nil
          have hnone : ν snx = none := by
            cases hq : ν snx with
            | none => rfl
            | some x => exact absurd hq (hns x.1 x.2)
          refine ⟨ν, fun _ _ => rfl, hnw0, ⟨fun id1 so h1 => ?_, h0.lt, fun id1 id2 r1 o1 o2 so h1 h3 h4 h5 => ?_⟩, ⟨hn0, .inl ⟨rfl, hz⟩⟩, by rw [g2, hb0]⟩
          · rw [Al.get_set] at h1
            split at h1
            · rename_i e; subst e; cases h1
              exact ⟨by omega, hO.1, .inl (by omega), fun _ r o h => absurd h (hns r o)⟩
            · exact h0.at_ id1 so h1
          · rw [Al.get_set] at h1
            split at h1
            · rename_i e; subst e; exact absurd h4 (hns r1 o1)
            · exact h0.inj id1 id2 r1 o1 o2 so h1 h3 h4 h5
        · have hrn : nx ≤ r := hnw id r 0 hid hr
          have hlt' : lv.lt nx = false := by
            rw [hlt]
            simp only [LV.lt]
            rw [← Bool.not_eq_true]; simp; omega
          obtain ⟨e1, e2⟩ := g7 hb0 hlt'
          have old : ∀ {i q o}, i ≠ snx → updN ν snx (some (r, 0)) i = some (q, o) → ν i = some (q, o) := fun e h => by rwa [updN_ne e] at h
          refine ⟨updN ν snx (some (r, 0)), fun i hi => updN_ne (by omega), fun i q o h1 h2 => ?_, ⟨fun id1 so h1 => ?_, fun id1 q o h1 => ?_, fun id1 id2 r1 o1 o2 so h1 h3 h4 h5 => ?_⟩, ⟨hn0, .inr ⟨r, 0, updN_same, .inl ⟨rfl, rfl⟩⟩⟩, by rw [g2, hb0]⟩
          · by_cases e : i = snx
            · subst e; rw [updN_same] at h2; cases h2; exact hrn
            · exact hnw0 i q o h1 (old e h2)
          · rw [Al.get_set] at h1
            split at h1
            · rename_i e; subst e; cases h1
              refine ⟨by omega, hO.1, hO.2.1.imp_right ?_, fun _ q o hq => ?_⟩
              · rintro ⟨r', o', lo, a, b, c⟩
                rw [hr] at a; cases a
                exact ⟨r, 0, lo, updN_same, by rw [e1]; exact b, c⟩
              · rw [updN_same] at hq; cases hq
                obtain ⟨a, lcs, b, c⟩ := hO.2.2 rfl r 0 hr
                exact ⟨rfl, lcs, by rw [e1]; exact b, c⟩
            · rename_i e
              obtain ⟨k1, k2⟩ := h0.at_ id1 so h1
              refine ⟨by omega, k2.sub (fun i x hx => ?_) (updN_ne e) fun r o lo a b => b⟩
              rw [updN_ne fun e => by subst e; exact hns x.1 x.2 hx]; exact hx
          · by_cases e : id1 = snx
            · subst e; rw [updN_same] at h1; cases h1
              exact ⟨by rw [e2]; exact (hM'.lt id _ 0 hr).1, by omega⟩
            · have := h0.lt id1 q o (old e h1); exact this
          · by_cases a1 : id1 = snx
            · by_cases a2 : id2 = snx
              · rw [a1, a2]
              · rw [a1, updN_same] at h4; cases h4
                have := (hM.lt id2 r o2 (old a2 h5)).1; omega
            · rw [Al.get_set_ne _ _ a1] at h1
              by_cases a2 : id2 = snx
              · rw [a2, updN_same] at h5; cases h5
                have := (hM.lt id1 r o1 (old a1 h4)).1; omega
              · exact h0.inj id1 id2 r1 o1 o2 so h1 h3 (old a1 h4) (old a2 h5)
        · cases hf
      split at h
      · rename_i id n hwr
        split at h
        · rename_i t ks hh hg
          obtain ⟨hn, h⟩ := h
          simp only [Al.force_eq] at h
          obtain ⟨ν2, k1, k2, k3, k4, k5⟩ := key hwr hg hn hv hvl rfl
          exact ⟨ν2, _, _, _, _, ⟨k1, k2, g4, by omega, k3, by rw [g1]; exact k4, fun q hq => (by rw [k5] at hq; cases hq), hkeep, hhas', fun _ => by omega⟩, h, g5⟩
        · exact h.elim
      · rename_i id n hwr
        split at h
        · rename_i t ks hh hg
          obtain ⟨hn, h⟩ := h
          simp only [Al.force_eq] at h
          obtain ⟨l', rfl, lv1, r', rfl, hls, hr'⟩ := hv
          obtain rfl := hr'
          obtain ⟨ν2, k1, k2, k3, k4, k5⟩ := key hwr hg hn hls (by simpa [SV.lt, SV.ltL] using hvl) (by simp [LV.lt, LV.ltL])
          exact ⟨ν2, _, _, _, _, ⟨k1, k2, g4, by omega, k3, by rw [g1]; exact ⟨_, rfl, _, _, rfl, k4, rfl⟩, fun q hq => (by rw [k5] at hq; cases hq), hkeep, hhas', fun _ => by omega⟩, h, g5⟩
        · exact h.elim
      · exact h.elim
theorem sArgs_ok : ∀ {l : List (SV (stdA fs ov))} {ll : List LV} {k : Nat} {T : Al (SV (stdA fs ov))} {L : Tr LV}, VSL ν l ll → FS ν T L → FS ν (sArgs k l T) (ofArgs k ll L)
  | [], ll, k, T, L, h, hF => by rw [show ll = [] from h]; exact hF
  | x :: l, ll, k, T, L, h, hF => by
    obtain ⟨y, r, rfl, h1, h2⟩ := h
    simp only [sArgs, ofArgs, Al.force_eq, Tr.force_eq]
    refine sArgs_ok h2 ⟨fun t u hu => ?_⟩
    rw [Al.get_set] at hu; rw [Tr.get_set]
    split at hu
    · rename_i e; rw [if_pos e]; cases hu; exact ⟨y, rfl, h1⟩
    · rename_i e; rw [if_neg e]; exact hF.at_ t u hu
theorem sRes_ok (hF : FS ν T L) (hM : HS ν M snx H nx) : ∀ {l : List ResultVar} {vs : List (SV (stdA fs ov))}, sRes P T M l = some vs → ∃ ls, evRes P L H l = some ls ∧ VSL ν vs ls
  | [], vs, h => by simp [sRes] at h; subst h; exact ⟨[], rfl, rfl⟩
  | .tmp t :: r, vs, h => by
    simp only [sRes] at h
    cases ht : T.get t with
    | none => simp [ht] at h
    | some v =>
      cases hr : sRes P T M r with
      | none => simp [ht, hr] at h
      | some l =>
        simp [ht, hr] at h; subst h
        obtain ⟨lv, h1, h2⟩ := hF.at_ t v ht
        obtain ⟨ls, h3, h4⟩ := sRes_ok hF hM hr
        exact ⟨lv :: ls, by simp [evRes, h1, h3], VSL.cons h2 h4⟩
  | .cell a t :: r, vs, h => by
    simp only [sRes] at h
    split at h
    · rename_i id off l ht hr
      split at h
      · rename_i u cs hg
        cases hp : sPrt P t cs off with
        | none => simp [hp] at h
        | some v =>
          simp [hp] at h; subst h
          obtain ⟨lv, h1, q, hq, rfl⟩ := hF.at_ a _ ht
          obtain ⟨q', lcs, hq', hH, hcs⟩ := (hM.at_ id _ hg).2
          rw [hq] at hq'; cases hq'
          obtain ⟨lv, h5, h6⟩ := sPrt_ok hp hcs
          obtain ⟨ls, h3, h4⟩ := sRes_ok hF hM hr
          exact ⟨lv :: ls, by simp [evRes, h1, h3, hH, LO.cs, h5], VSL.cons h6 h4⟩
      · cases h
    · cases h
theorem lOfS_ok {vs : List (SV (stdA fs ov))} {ls : List LV} (h : VSL ν vs ls) : VS ν (lOfS vs) (lOf ls) := by
  cases vs with
  | nil => rw [show ls = [] from h]; exact ⟨[], rfl, rfl⟩
  | cons x l =>
    obtain ⟨y, r, rfl, h1, h2⟩ := h
    cases l with
    | nil => rw [show r = [] from h2]; exact h1
    | cons x2 l =>
      obtain ⟨y2, r2, rfl, h3, h4⟩ := h2
      exact ⟨_, rfl, VSL.cons h1 (VSL.cons h3 h4)⟩
theorem sFunc_ok {cs : CallS (stdA fs ov)} {call : CallT} (hc : CallSOK cs call) {lp : FuncId → LoopS (stdA fs ov)} {Lm U : Nat} (hl : ∀ g fn c, P.funcs[g]? = some fn → fn.body = some c → LoopsOK P call Lm c (lp g)) (hU : U ≤ Lm)
    {g : FuncId} {args : List (SV (stdA fs ov))} {K : KS (stdA fs ov)} (h : sFunc P U cs lp g args M snx K) {largs : List LV} (ha : VSL ν args largs) (hM : HS ν M snx H nx) : GotOp ν snx H nx K (evStep P Lm call (.f g) largs H nx) := by
  unfold sFunc at h
  cases hfn : P.funcs[g]? with
  | none => simp only [hfn] at h <;> exact h.elim
  | some fn =>
    simp only [hfn] at h
    cases hb : fn.body with
    | none => simp only [hb] at h <;> exact h.elim
    | some c =>
      simp only [hb, Al.force_eq] at h
      have hs0 : Sim (fun q => nx ≤ q) ν ⟨sArgs 0 args .l, args.length + (fn.ntmps - args.length), M, snx, []⟩ ⟨ofArgs 0 largs .l, largs.length + (fn.ntmps - largs.length), H, nx, [], [], nx⟩ :=
        ⟨by rw [ha.length], sArgs_ok ha ⟨fun t u hu => by simp [Al.get_l] at hu⟩, hM, Nat.le_refl _, fun q hq => (by cases hq), fun q hq => hq⟩
      obtain ⟨e, S', ν', s', h1, h2, h3, h4⟩ := sCode_ok (ro := none) hc (hl g fn c hfn hb) hU h rfl hs0
      have fin : (∃ vs, sRes P s'.T s'.H fn.results.toList = some vs ∧ sLeave snx M (lOfS vs) s'.H s'.nx s'.wr K) → e = .normal ∨ e = .ret → GotOp ν snx H nx K (evStep P Lm call (.f g) largs H nx) := fun h4 he => by
        obtain ⟨vs, hr, h4⟩ := h4
        · obtain ⟨ls, h5, h6⟩ := sRes_ok h3.T h3.H hr
          obtain ⟨T', N', H', nx', lw, df, mx⟩ := S'
          have hdf : df = [] := h2.df
          subst hdf
          have hup : nx ≤ nx' := h2.up
          obtain ⟨ν2, v2, M2, snx2, wr2, k1, k2, k3⟩ := sLeave_ok (lw := lw) hM h3.H h2.lo h2.nw hup (fun q hq hlt => (h3.wr q hq).resolve_left (by show ¬ nx ≤ q; omega)) h2.keep (fun q hq => (h2.has q hq).resolve_left (by simp)) (lOfS_ok h6) h4
          have hmx : nx' ≤ mx := h3.mx
          refine ⟨⟨gc nx H (lOf ls) H' nx' (addW [] lw), mx⟩, ?_, Nat.le_trans k3 hmx, _, ν2, v2, M2, snx2, wr2, rfl, k1, k2⟩
          have b1 : Nat.ble nx nx' = true := by simpa using hup
          rcases he with rfl | rfl <;> simp only [evStep, hfn, hb, Tr.force_eq, nN_eq, h1, unmark, h5, b1, cond_true]
      cases e with
      | normal =>
        simp only at h4
        split at h4
        · rename_i vs hr; exact fin ⟨vs, hr, h4⟩ (.inl rfl)
        · exact h4.elim
      | ret =>
        simp only at h4
        split at h4
        · rename_i vs hr; exact fin ⟨vs, hr, h4⟩ (.inr rfl)
        · exact h4.elim
      | exit j => exact h4.elim
      | goto j => exact h4.elim
end Go.Rx
