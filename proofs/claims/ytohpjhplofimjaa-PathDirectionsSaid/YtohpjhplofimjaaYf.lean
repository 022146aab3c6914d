/-
  A symbolic run: operations, regions that keep their order. No program.
-/
import Derived.Test.YtohpjhplofimjaaYe
set_option linter.unusedSimpArgs false
set_option linter.unusedVariables false
set_option linter.unusedSectionVars false
namespace Go.Rx
open Go
variable {fs : Fs} {ov : Bool} {ν : Nm} {P : Program} {T : Al (SV (stdA fs ov))} {L : Tr LV} {M : SH (stdA fs ov)} {H : Hp} {snx nx : Nat} {W : Nat → Prop}

def GotOp (ν : Nm) (snx : Nat) (H : Hp) (nx : Nat) (K : KS (stdA fs ov)) (x : Option Res) : Prop := ∃ r, x = some r ∧ r.o.nx ≤ r.mx ∧ GotBy ν snx H nx K (some r.o)
def CallSOK (cs : CallS (stdA fs ov)) (call : CallT) : Prop := ∀ (g : FuncId) (args : List (SV (stdA fs ov))) (M : SH (stdA fs ov)) (snx : Nat) (K : KS (stdA fs ov)), cs g args M snx K →
  ∀ (ν : Nm) (largs : List LV) (H : Hp) (nx : Nat), VSL ν args largs → HS ν M snx H nx → GotOp ν snx H nx K (call (.f g) largs H nx)
theorem gotop_of {K : KS (stdA fs ov)} {x : Option Out} (h : GotBy ν snx H nx K x) : GotOp ν snx H nx K (res x) := by
  obtain ⟨o, ν', v, M', snx', wr, rfl, hg, hk⟩ := h
  exact ⟨⟨o, o.nx⟩, rfl, Nat.le_refl _, o, ν', v, M', snx', wr, rfl, hg, hk⟩
theorem gotby_same (hM : HS ν M snx H nx) {K : KS (stdA fs ov)} {v : SV (stdA fs ov)} {lv : LV} (hv : VS ν v lv) (hK : K v M snx []) : GotBy ν snx H nx K (some ⟨lv, H, nx, []⟩) :=
  ⟨_, ν, v, M, snx, [], rfl, got_same hM hv, hK⟩
theorem sBuiltin_ok (hM : HS ν M snx H nx) {b : Builtin} {ts : List TypeId} {args : List (SV (stdA fs ov))} {la : List LV} {K : KS (stdA fs ov)} (h : sBuiltin P b ts args M snx K) (ha : VSL ν args la) : GotBy ν snx H nx K (evBuiltin P b ts la H nx) := by
  unfold sBuiltin at h
  split at h
  · rename_i t x
    obtain ⟨lx, r, rfl, hx, hr⟩ := ha
    obtain rfl := hr
    split at h
    · rename_i e hu
      obtain rfl := hx
      simp only [evBuiltin, hu]
      exact gotby_same hM (v := .i .i64 (0 : Int)) (lv := .i .i64 0) rfl h
    · rename_i e id off len cap hu
      obtain ⟨r, hr, rfl⟩ := hx
      simp only [evBuiltin, hu]
      exact gotby_same hM (v := .i .i64 (len : Int)) (lv := .i .i64 (.ofNat len)) rfl h
    · rename_i e own id n hu
      obtain ⟨hn, ⟨rfl, h3⟩ | ⟨r, o, hr, ⟨rfl, rfl⟩ | ⟨_, c, hc, rfl⟩⟩⟩ := hx
      · simp only [evBuiltin, hu]
        have h3 : n = (0 : Int) := h3
        subst h3
        exact gotby_same hM (v := .i .i64 (0 : Int)) (lv := .i .i64 0) rfl h
      · simp only [evBuiltin, hu]
        exact gotby_same hM (lv := .i .i64 (.ofNat (Int.toNat n))) (by show LV.i _ _ = LV.i _ _; rw [show Int.ofNat (Int.toNat n) = n from Int.toNat_of_nonneg hn]) h
      · simp only [evBuiltin, hu]
        exact gotby_same hM (lv := .i .i64 (.ofNat (Int.toNat n))) (by show LV.i _ _ = LV.i _ _; rw [show Int.ofNat (Int.toNat n) = n from Int.toNat_of_nonneg hn]) h
    · rename_i n e hu
      have e : evBuiltin P .len [t] [lx] H nx = some ⟨.i .i64 (.ofNat n), H, nx, []⟩ := by
        simp only [evBuiltin, hu]
      rw [e]
      exact gotby_same hM (v := .i .i64 (n : Int)) (lv := .i .i64 (.ofNat n)) rfl h
    · exact h.elim
  · rename_i k x l
    obtain ⟨lx, r, rfl, hx, hr⟩ := ha
    obtain rfl := hx
    obtain ⟨v, h1, h2⟩ := opt_ok h
    obtain ⟨lv, h3, h4⟩ := foldS_ok h1 hr
    simp only [evBuiltin, h3]
    exact gotby_same hM h4 h2
  · rename_i k x l
    obtain ⟨lx, r, rfl, hx, hr⟩ := ha
    obtain rfl := hx
    obtain ⟨v, h1, h2⟩ := opt_ok h
    obtain ⟨lv, h3, h4⟩ := foldS_ok h1 hr
    simp only [evBuiltin, h3]
    exact gotby_same hM h4 h2
  · exact h.elim
theorem sBuildSl_ok (hF : FS ν T L) (hM : HS ν M snx H nx) {t : TypeId} {len : Nat} {ps : Array (Nat × Operand)} {K : KS (stdA fs ov)} (h : sBuildSl P T M snx t len ps K) : GotBy ν snx H nx K (evBuildSl P L H nx t len ps) := by
  unfold sBuildSl at h
  unfold evBuildSl
  split at h
  · rename_i e hu
    simp only [hu]
    split at h
    · rename_i z n l hz hs hl
      obtain ⟨lz, h1, h2⟩ := sZero_ok (ν := ν) hz
      obtain ⟨ll, h3, h4⟩ := sPartsO_ok hF hl
      simp only [h1, hs, h3, ← h2.cells.length] at h ⊢
      cases hc : (Nat.beq lz.cells.length n && Nat.blt 0 n && Nat.ble (len * n) 16777216)
      · simp only [hc, cond_false] at h <;> exact h.elim
      · simp only [hc, cond_true] at h ⊢
        cases hf : sFill (fun i => some (i * n, n)) (sRep len z.cells) l with
        | none => simp only [hf] at h <;> exact h.elim
        | some cs =>
          simp only [hf] at h
          obtain ⟨lr, h5, h6⟩ := sFill_ok hf h4 (sRep_ok h2.cells len)
          simp only [h5]
          exact sFresh_ok hM h (fun ν' hle hn H' hH => ⟨nx, lr, hn, hH, h6.mono hle⟩) (lv := .sl nx 0 len len) (fun ν' hn => ⟨nx, hn, rfl⟩) rfl
    · exact h.elim
  · exact h.elim
theorem sCallee_ok {cs : CallS (stdA fs ov)} {call : CallT} (hc : CallSOK cs call) (hF : FS ν T L) (hM : HS ν M snx H nx) {c : Call} {K : KS (stdA fs ov)} (h : sCallee P cs T M snx c K) : GotOp ν snx H nx K (evCallee P call L H nx c) := by
  unfold sCallee at h
  unfold evCallee
  split at h
  · rename_i f hcal
    simp only [hcal]
    split at h
    · rename_i args g a cap ha hf
      obtain ⟨la, h1, h2⟩ := sOs_ok hF ha
      obtain ⟨lf, h3, h4⟩ := sO_ok hF hf
      obtain ⟨a', c', rfl, h5, h6⟩ := h4
      simp only [h1, h3, callAt, ap_eq]
      exact hc g _ M snx K h ν _ H nx (h5.append (h2.append h6)) hM
    · exact h.elim
  · rename_i b hcal
    simp only [hcal]
    split at h
    · rename_i args ha
      obtain ⟨la, h1, h2⟩ := sOs_ok hF ha
      simp only [h1]
      exact gotop_of (sBuiltin_ok hM h h2)
    · exact h.elim
  · exact h.elim
theorem sOp_ok {cs : CallS (stdA fs ov)} {call : CallT} (hc : CallSOK cs call) (hF : FS ν T L) (hM : HS ν M snx H nx) {op : Op} {K : KS (stdA fs ov)} (h : sOp P cs T M snx op K) : GotOp ν snx H nx K (evOp P call L H nx op) := by
  have pure : ∀ {op : Op}, sPure P T op (fun v => K v M snx []) → evOp P call L H nx op = res (evPureO P L H nx op) → GotOp ν snx H nx K (evOp P call L H nx op) := fun {op} hp he => by
    obtain ⟨v, lv, h1, h2, h3⟩ := sPure_ok hF hp
    rw [he]
    refine gotop_of ?_
    simp only [evPureO, h1]
    exact gotby_same hM h2 h3
  cases op
  case load t x =>
    obtain ⟨v, lv, h1, h2, h3⟩ := sLoad_val hF (fun id so _ hg => (hM.at_ id so hg).2) h
    exact gotop_of (x := evLoad P L H nx t x) (h1 ▸ gotby_same hM h2 h3)
  case store t x y => exact gotop_of (sStore_ok hF hM h)
  case alloc t =>
    simp only [sOp] at h
    split at h
    · rename_i z hz
      obtain ⟨lz, h1, h2⟩ := sZero_ok (ν := ν) hz
      simp only [evOp, evAlloc, h1]
      exact gotop_of (sFresh_ok hM h (fun ν' hle hn H' hH => ⟨nx, lz.cells, hn, hH, h2.cells.mono hle⟩) (lv := .p nx 0) (fun ν' hn => ⟨nx, hn, rfl⟩) rfl)
    · exact h.elim
  case box t x =>
    simp only [sOp] at h
    split at h
    · rename_i z hz
      obtain ⟨lz, h1, h2⟩ := sO_ok hF hz
      simp only [evOp, evBox, h1]
      exact gotop_of (sFresh_ok hM h (fun ν' hle hn H' hH => ⟨nx, lz.cells, hn, hH, h2.cells.mono hle⟩) (lv := .p nx 0) (fun ν' hn => ⟨nx, hn, rfl⟩) rfl)
    · exact h.elim
  case buildSlice t len ps => exact gotop_of (sBuildSl_ok hF hM h)
  case call c => exact sCallee_ok hc hF hM h
  case makeSlice t l c => exact absurd h (by simp [sOp, sPure])
  all_goals exact pure h rfl

/-! ### Regions -/
theorem sPut_ok (hF : FS ν T L) {N : Nat} {dst : Option Tmp} {v : SV (stdA fs ov)} {lv : LV} {K : Al (SV (stdA fs ov)) → Prop} (h : sPut T N dst v K) (hv : VS ν v lv) : ∃ T' L', putT L N dst lv = some L' ∧ FS ν T' L' ∧ K T' := by
  cases dst with
  | none => exact ⟨T, L, rfl, hF, h⟩
  | some d =>
    simp only [sPut] at h
    cases hb : Nat.blt d N
    · simp only [hb, cond_false] at h <;> exact h.elim
    · simp only [hb, cond_true, Al.force_eq] at h
      refine ⟨_, L.set d (some lv), by simp [putT, hb, Tr.force_eq], ⟨fun t u hu => ?_⟩, h⟩
      rw [Al.get_set] at hu; rw [Tr.get_set]
      by_cases e : t = d
      · rw [if_pos e] at hu ⊢; cases hu; exact ⟨lv, rfl, hv⟩
      · rw [if_neg e] at hu ⊢; exact hF.at_ t u hu
theorem fs_know (hF : FS ν T L) {d : Nat} {x : Bool} (hx : T.get d = some (.b x)) : FS ν (T.set d (some (.b x))) L := ⟨fun t u hu => by
  rw [Al.get_set] at hu
  by_cases e : t = d
  · rw [if_pos e] at hu; cases hu; subst e; exact hF.at_ _ _ hx
  · rw [if_neg e] at hu; exact hF.at_ t u hu⟩
theorem sWant_ok (hF : FS ν T L) {ops : Array Oper} {o : Oper} {yes no : Al (SV (stdA fs ov)) → Prop} (h : sWant ops T o yes no) :
    (∃ T', want ops L o = some true ∧ FS ν T' L ∧ yes T') ∨ (∃ T', want ops L o = some false ∧ FS ν T' L ∧ no T') := by
  unfold sWant at h
  unfold want
  cases hg : o.guard with
  | none => simp only [hg] at h; exact .inl ⟨T, rfl, hF, h⟩
  | some q =>
    obtain ⟨j, w⟩ := q
    simp only [hg] at h ⊢
    cases hd : (ops[j]?).bind (·.dst) with
    | none => simp only [hd] at h; exact .inr ⟨T, rfl, hF, h⟩
    | some d =>
      simp only [hd] at h ⊢
      split at h
      · rename_i x hx
        obtain ⟨lv, h1, h2⟩ := hF.at_ d _ hx
        obtain rfl := h2
        simp only [h1]
        have h' : cond x _ _ := h
        cases x
        · simp only [Al.force_eq, cond_false] at h'
          cases w
          · exact .inl ⟨_, rfl, fs_know hF hx, h'⟩
          · exact .inr ⟨_, rfl, fs_know hF hx, h'⟩
        · simp only [Al.force_eq, cond_true] at h'
          cases w
          · exact .inr ⟨_, rfl, fs_know hF hx, h'⟩
          · exact .inl ⟨_, rfl, fs_know hF hx, h'⟩
      · rename_i hx
        obtain ⟨lv, h1, h2⟩ := hF.at_ d _ hx
        obtain ⟨l', rfl, hl⟩ := h2
        obtain rfl := hl
        exact .inr ⟨T, by simp only [h1], hF, h⟩
      · exact h.elim
structure Sim (W : Nat → Prop) (ν : Nm) (s : SS (stdA fs ov)) (S : Rx.S) : Prop where
  N : S.N = s.N
  T : FS ν s.T S.T
  H : HS ν s.H s.nx S.H S.nx
  mx : S.nx ≤ S.mx
  wr : ∀ q ∈ S.wr, W q ∨ ∃ id ∈ s.wr, ∃ o, ν id = some (q, o)
  wup : ∀ q, S.nx ≤ q → W q
/-- From one state to a later one. -/
structure XT (ν : Nm) (s : SS (stdA fs ov)) (S : Rx.S) (ν' : Nm) (s' : SS (stdA fs ov)) (S' : Rx.S) : Prop where
  lo : Lo s.nx ν ν'
  nw : ∀ id q o, s.nx ≤ id → ν' id = some (q, o) → S.nx ≤ q
  up : S.nx ≤ S'.nx
  sup : s.nx ≤ s'.nx
  wr : ∀ q ∈ S.wr, q ∈ S'.wr
  swr : ∀ id ∈ s.wr, id ∈ s'.wr
  keepS : ∀ q, q < S.nx → (∀ id ∈ s'.wr, ∀ o, ν' id ≠ some (q, o)) → S'.H.get q = S.H.get q
  keep : ∀ q, q < S.nx → q ∉ S'.wr → S'.H.get q = S.H.get q
  has : ∀ q ∈ S'.wr, q ∈ S.wr ∨ S.nx ≤ q ∨ ∃ o, S.H.get q = some o
  df : S'.df = S.df
theorem XT.refl {s : SS (stdA fs ov)} {S : Rx.S} (hM : HS ν s.H s.nx S.H S.nx) : XT ν s S ν s S := ⟨fun _ _ => rfl, fun id q o h1 h2 => by have := (hM.lt id q o h2).2; omega, Nat.le_refl _, Nat.le_refl _, fun _ h => h, fun _ h => h, fun _ _ _ => rfl, fun _ _ _ => rfl, fun q hq => .inl hq, rfl⟩
theorem XT.trans {ν1 ν2 : Nm} {s s1 s2 : SS (stdA fs ov)} {S S1 S2 : Rx.S} (h : XT ν s S ν1 s1 S1) (hs : Sim W ν1 s1 S1) (h' : XT ν1 s1 S1 ν2 s2 S2) : XT ν s S ν2 s2 S2 := by
  refine ⟨fun id hid => ?_, fun id q o h1 h2 => ?_, Nat.le_trans h.up h'.up, Nat.le_trans h.sup h'.sup, fun q hq => h'.wr q (h.wr q hq), fun q hq => h'.swr q (h.swr q hq), fun q hq hn => ?_, fun q hq hn => ?_, fun q hq => ?_, h'.df.trans h.df⟩
  · rw [h'.lo id (Nat.lt_of_lt_of_le hid h.sup), h.lo id hid]
  · by_cases hlt : id < s1.nx
    · rw [h'.lo id hlt] at h2; exact h.nw id q o h1 h2
    · exact Nat.le_trans h.up (h'.nw id q o (by omega) h2)
  · rw [h'.keepS q (Nat.lt_of_lt_of_le hq h.up) hn, h.keepS q hq fun id hid o he => ?_]
    have hlt := (hs.H.lt id q o he).2
    exact hn id (h'.swr id hid) o (by rw [h'.lo id hlt]; exact he)
  · rw [h'.keep q (Nat.lt_of_lt_of_le hq h.up) hn, h.keep q hq fun hq' => hn (h'.wr q hq')]
  · rcases h'.has q hq with h1 | h1 | ⟨o, h1⟩
    · exact h.has q h1
    · exact .inr (.inl (Nat.le_trans h.up h1))
    · by_cases hlt : S.nx ≤ q
      · exact .inr (.inl hlt)
      · by_cases hw : q ∈ S1.wr
        · exact h.has q hw
        · exact .inr (.inr ⟨o, by rw [← h.keep q (by omega) hw]; exact h1⟩)
def GoS (W : Nat → Prop) (ν : Nm) (s : SS (stdA fs ov)) (S : Rx.S) (K : SS (stdA fs ov) → Prop) (x : Option Rx.S) : Prop := ∃ S' ν' s', x = some S' ∧ XT ν s S ν' s' S' ∧ Sim W ν' s' S' ∧ K s'
theorem Lo.nle {ν' : Nm} (hM : HS ν M snx H nx) (h : Lo snx ν ν') : NLe ν ν' := hM.le h
theorem sOps_ok {cs : CallS (stdA fs ov)} {call : CallT} (hc : CallSOK cs call) {ops : Array Oper} : ∀ {l : List Oper} {ν : Nm} {s : SS (stdA fs ov)} {S : Rx.S} {K : SS (stdA fs ov) → Prop}, sOps P cs ops l s K → Sim W ν s S → GoS W ν s S K (evOps P call ops l S)
  | [], ν, s, S, K, h, hs => ⟨S, ν, s, rfl, XT.refl hs.H, hs, h⟩
  | o :: rest, ν, ⟨T, N, M, snx, wr⟩, ⟨L, N', H, nx, lw, df, mx⟩, K, h, hs => by
    obtain rfl : N' = N := hs.N
    simp only [sOps] at h
    rcases sWant_ok hs.T h with ⟨T', hw, hF, h⟩ | ⟨T', hw, hF, h⟩
    · obtain ⟨r, he, hmx, o', ν', v, M', snx', wr', e, hg, h⟩ := sOp_ok hc hF hs.H h
      cases e
      obtain ⟨⟨lv, H', nx', lw'⟩, m⟩ := r
      have hle := hs.H.le hg.lo
      have hF' : FS ν' T' L := ⟨fun t u hu => let ⟨lv, a, b⟩ := hF.at_ t u hu; ⟨lv, a, b.mono hle⟩⟩
      obtain ⟨T2, L2, hp, hF2, h⟩ := sPut_ok hF' h hg.v
      have hup : nx ≤ nx' := hg.up
      have hmx : nx' ≤ m := hmx
      have b1 : Nat.ble nx nx' = true := by simpa using hup
      have b2 : Nat.ble nx' m = true := by simpa using hmx
      have hsim : Sim W ν' ⟨T2, N', M', snx', addW wr' wr⟩ ⟨L2, N', H', nx', addW lw' lw, df, more' mx m⟩ := by
        refine ⟨rfl, hF2, hg.hs, Nat.le_trans hmx (more'_le _ _).2, fun q hq => ?_, fun q hq => hs.wup q (Nat.le_trans hup hq)⟩
        rcases mem_addW.1 hq with hq | hq
        · obtain ⟨id, h1, o, h2⟩ := hg.wr q hq
          exact .inr ⟨id, mem_addW.2 (.inl h1), o, hle _ _ h2⟩
        · rcases hs.wr q hq with hW | ⟨id, h1, o, h2⟩
          · exact .inl hW
          · exact .inr ⟨id, mem_addW.2 (.inr h1), o, hle _ _ h2⟩
      have hxt : XT ν ⟨T, N', M, snx, wr⟩ ⟨L, N', H, nx, lw, df, mx⟩ ν' ⟨T2, N', M', snx', addW wr' wr⟩ ⟨L2, N', H', nx', addW lw' lw, df, more' mx m⟩ :=
        ⟨hg.lo, hg.nw, hup, hg.sup, fun q hq => mem_addW.2 (.inr hq), fun id hid => mem_addW.2 (.inr hid), fun q hq hn => hg.keep q hq fun hq' => (by
          obtain ⟨id, h1, o, h2⟩ := hg.wr q hq'
          exact hn id (mem_addW.2 (.inl h1)) o (hle _ _ h2)), fun q hq hn => hg.keep q hq fun hq' => hn (mem_addW.2 (.inl hq')), fun q hq => (mem_addW.1 hq).elim (fun h => .inr (hg.has q h)) .inl, rfl⟩
      obtain ⟨S', ν2, s2, h1, h2, h3, h4⟩ := sOps_ok hc h hsim
      refine ⟨S', ν2, s2, ?_, hxt.trans hsim h2, h3, h4⟩
      simp only [evOps, hw, he, b1, b2, Bool.and_true, cond_true, hp, nN_eq]
      exact (match_self (addW lw' lw) fun w => evOps P call ops rest ⟨L2, N', H', nx', w, df, more' mx m⟩).trans h1
    · obtain ⟨T2, L2, hp, hF2, h⟩ := sPut_ok hF h (show VS ν (.tup []) (.tup []) from ⟨[], rfl, rfl⟩)
      have hsim : Sim W ν ⟨T2, N', M, snx, wr⟩ ⟨L2, N', H, nx, lw, df, mx⟩ := ⟨rfl, hF2, hs.H, hs.mx, hs.wr, hs.wup⟩
      obtain ⟨S', ν2, s2, h1, h2, h3, h4⟩ := sOps_ok hc h hsim
      refine ⟨S', ν2, s2, ?_, ⟨h2.lo, h2.nw, h2.up, h2.sup, h2.wr, h2.swr, h2.keepS, h2.keep, h2.has, h2.df⟩, h3, h4⟩
      simp only [evOps, hw, hp]
      exact h1
end Go.Rx
