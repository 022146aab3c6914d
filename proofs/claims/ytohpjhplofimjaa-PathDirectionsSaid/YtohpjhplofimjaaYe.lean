/-
  A symbolic run: memory. No program.
-/
import Derived.Test.YtohpjhplofimjaaYd
set_option linter.unusedSimpArgs false
set_option linter.unusedVariables false
set_option linter.unusedSectionVars false
namespace Go.Rx
open Go
variable {fs : Fs} {ov : Bool} {ν : Nm} {P : Program} {T : Al (SV (stdA fs ov))} {L : Tr LV} {M : SH (stdA fs ov)} {H : Hp} {snx nx : Nat}

/-- What an operation or a call has left, and what the symbolic run says of it. -/
structure Got (ν : Nm) (snx : Nat) (H : Hp) (nx : Nat) (ν' : Nm) (v : SV (stdA fs ov)) (M' : SH (stdA fs ov)) (snx' : Nat) (wr : List Nat) (r : Out) : Prop where
  lo : Lo snx ν ν'
  nw : ∀ id q o, snx ≤ id → ν' id = some (q, o) → nx ≤ q
  up : nx ≤ r.nx
  sup : snx ≤ snx'
  hs : HS ν' M' snx' r.H r.nx
  v : VS ν' v r.v
  wr : ∀ q ∈ r.wr, ∃ id ∈ wr, ∃ o, ν id = some (q, o)
  keep : ∀ q, q < nx → q ∉ r.wr → r.H.get q = H.get q
  has : ∀ q ∈ r.wr, nx ≤ q ∨ ∃ o, H.get q = some o
  same : r.nx ≠ nx → snx' ≠ snx
theorem HS.le {ν' : Nm} (h : HS ν M snx H nx) (hl : Lo snx ν ν') : NLe ν ν' := fun id x hx => by
  obtain ⟨r, o⟩ := x
  rw [hl id (h.lt id r o hx).2, hx]
theorem got_same (h : HS ν M snx H nx) {v : SV (stdA fs ov)} {lv : LV} (hv : VS ν v lv) : Got ν snx H nx ν v M snx [] ⟨lv, H, nx, []⟩ :=
  ⟨fun _ _ => rfl, fun id q o h1 h2 => by have := (h.lt id q o h2).2; omega, Nat.le_refl _, Nat.le_refl _, h, hv, fun q hq => (by cases hq), fun q _ _ => rfl, fun q hq => (by cases hq), fun h => absurd rfl h⟩
/-- What came of it. -/
def GotBy (ν : Nm) (snx : Nat) (H : Hp) (nx : Nat) (K : KS (stdA fs ov)) (r : Option Out) : Prop := ∃ (o : Out) (ν' : Nm) (v : SV (stdA fs ov)) (M' : SH (stdA fs ov)) (snx' : Nat) (wr : List Nat), r = some o ∧ Got ν snx H nx ν' v M' snx' wr o ∧ K v M' snx' wr

theorem cellAt_ok {ks : List CK} {h : Ll} {i : Int} {j : Nat} {v : SV (stdA fs ov)} (hc : cellAt (A := stdA fs ov) ks h i j = some v) : ∃ k, ks[j]? = some k ∧ VS ν v (cellLV k (h.get i j)) := by
  unfold cellAt at hc
  split at hc
  · rename_i k hk; simp at hc; subst hc; exact ⟨_, hk, rfl⟩
  · rename_i hk; simp at hc; subst hc; exact ⟨_, hk, rfl⟩
  · cases hc
theorem cellsAt_ok {ks : List CK} {h : Ll} {i : Int} {lcs : List LV} {o : Nat} (hi : 0 ≤ i) (hl : i < h.length) (hc : cellsOK lcs o ks h) : ∀ {n j : Nat} {r : List (SV (stdA fs ov))}, cellsAt (A := stdA fs ov) ks h i n j = some r →
    ∃ rs, tk n (lcs.drop (o + i.toNat * ks.length + j)) = some rs ∧ VSL ν r rs
  | 0, j, r, h => by simp [cellsAt] at h; subst h; exact ⟨[], by simp [tk], rfl⟩
  | n + 1, j, r, h => by
    simp only [cellsAt] at h
    rename_i h0
    cases hv : cellAt (A := stdA fs ov) ks h0 i j with
    | none => simp [hv] at h
    | some v =>
      cases hr : cellsAt (A := stdA fs ov) ks h0 i n (j + 1) with
      | none => simp [hv, hr] at h
      | some m =>
        simp [hv, hr] at h; subst h
        obtain ⟨k, hk, hvs⟩ := cellAt_ok (ν := ν) hv
        obtain ⟨rs, h1, h2⟩ := cellsAt_ok hi hl hc hr
        have := hc i.toNat j k (by omega) hk
        rw [show ((i.toNat : Nat) : Int) = i by omega] at this
        obtain ⟨hlt, he⟩ := List.getElem?_eq_some_iff.1 this
        rw [List.drop_eq_getElem_cons hlt, he]
        refine ⟨_ :: rs, ?_, VSL.cons hvs h2⟩
        simp only [tk]
        rw [show o + i.toNat * ks.length + j + 1 = o + i.toNat * ks.length + (j + 1) by omega, h1]
theorem elemAt_ok {ks : List CK} {h : Ll} {i : Int} {j : Nat} {lcs : List LV} {o : Nat} {t : TypeId} {v : SV (stdA fs ov)} (hi : 0 ≤ i) (hl : i < h.length) (hc : cellsOK lcs o ks h) (he : elemAt (A := stdA fs ov) P t ks h i j = some v) :
    ∃ lv, prt P t lcs (o + i.toNat * ks.length + j) = some lv ∧ VS ν v lv := by
  unfold elemAt at he
  unfold prt
  cases ha : isAg P t with
  | none => simp [ha] at he
  | some b =>
    cases b with
    | false =>
      simp [ha, at_eq] at he ⊢
      obtain ⟨k, hk, hvs⟩ := cellAt_ok (ν := ν) he
      have := hc i.toNat j k (by omega) hk
      rw [show ((i.toNat : Nat) : Int) = i by omega] at this
      exact ⟨_, this, hvs⟩
    | true =>
      cases hs : szOf P t with
      | none => simp [ha, hs] at he
      | some n =>
        cases hr : cellsAt (A := stdA fs ov) ks h i n j with
        | none => simp [ha, hs, hr] at he
        | some r =>
          simp [ha, hs, hr] at he; subst he
          obtain ⟨rs, h1, h2⟩ := cellsAt_ok (ν := ν) hi hl hc hr
          simp only [dp_eq, h1]
          exact ⟨_, rfl, rs, rfl, h2⟩
theorem sLoad_val (hF : FS ν T L) {t : TypeId} {x : Operand} {K : KS (stdA fs ov)} {H' : Hp} (hO : ∀ id so, looks T (.load t x) = some (some id) → M.get id = some so → OS ν H' id so) (h : sLoad P T M snx t x K) :
    ∃ v lv, evLoad P L H' nx t x = some ⟨lv, H', nx, []⟩ ∧ VS ν v lv ∧ K v M snx [] := by
  unfold sLoad at h
  split at h
  · rename_i id off hx
    obtain ⟨lx, h1, h2⟩ := sO_ok hF hx
    obtain ⟨r, hr, rfl⟩ := h2
    split at h
    · rename_i u cs hg
      obtain ⟨v, h3, h4⟩ := opt_ok h
      obtain ⟨r', lcs, hr', hH, hcs⟩ := hO id _ (by simp [looks, hx]) hg
      rw [hr] at hr'; cases hr'
      obtain ⟨lv, h5, h6⟩ := sPrt_ok h3 hcs
      exact ⟨v, lv, by simp [evLoad, h1, hH, LO.cs, h5], h6, h4⟩
    · exact h.elim
  · rename_i id z i j hx
    obtain ⟨lx, h1, h2⟩ := sO_ok hF hx
    obtain ⟨r, o, hr, h0, rfl⟩ := h2
    split at h
    · rename_i u ks own hh hg
      cases hz : Nat.beq ks.length z
      · simp only [hz, cond_false] at h <;> exact h.elim
      · simp only [hz, cond_true] at h
        obtain rfl : ks.length = z := (beq_iff _ _).1 hz
        obtain ⟨hi, h⟩ := h
        have hi : @LT.lt Int _ i (hh.length : Int) := hi
        have h0 : @LE.le Int _ 0 i := h0
        obtain ⟨v, h3, h4⟩ := opt_ok h
        obtain ⟨_, hd, _⟩ := hO id _ (by simp [looks, hx]) hg
        rcases hd with hd | ⟨r', o', lo, hr', hH, hd⟩
        · omega
        · rw [hr] at hr'; cases hr'
          rcases hd with ⟨lcs, hc, hok⟩ | ⟨base, cs, rfl, hle, hok⟩
          · obtain ⟨lv, h5, h6⟩ := elemAt_ok (ν := ν) h0 hi hok h3
            exact ⟨v, lv, by simp [evLoad, h1, hH, hc, h5], h6, h4⟩
          · obtain ⟨lv, h5, h6⟩ := elemAt_ok (ν := ν) h0 hi hok h3
            have hb : Nat.ble base (o + Int.toNat i * ks.length + j) = true := by simp; omega
            refine ⟨v, lv, ?_, h6, h4⟩
            simp only [evLoad, h1, hH, LO.cs, hb, cond_true]
            rw [show o + Int.toNat i * ks.length + j - base = o - base + Int.toNat i * ks.length + j by omega, h5]
    · exact h.elim
  · exact h.elim
theorem VSL.one : ∀ {l : List (SV (stdA fs ov))} {vs : List LV}, VSL ν l vs → sAllOne l = true → allOne vs = true
  | [], vs, h, _ => by rw [h]; rfl
  | x :: l, vs, h, h1 => by
    obtain ⟨y, r, rfl, hx, hl⟩ := h
    have hb : x.one = true ∧ sAllOne l = true := by
      simp only [sAllOne] at h1
      cases hxo : x.one <;> simp [hxo] at h1
      exact ⟨rfl, h1⟩
    have hy : y.one = true := by
      cases x with
      | agg l => exact absurd hb.1 (by simp [SV.one])
      | tup l => exact absurd hb.1 (by simp [SV.one])
      | fn f a c => obtain ⟨a', c', rfl, _, _⟩ := hx; rfl
      | p id off => obtain ⟨r, h1, rfl⟩ := hx; rfl
      | pe id z i j => obtain ⟨r, o, h1, h2, rfl⟩ := hx; rfl
      | sl id off len cap => obtain ⟨r, h1, rfl⟩ := hx; rfl
      | ls own id n => obtain ⟨h0, ⟨rfl, _⟩ | ⟨r, o, _, ⟨_, rfl⟩ | ⟨_, c, _, rfl⟩⟩⟩ := hx <;> rfl
      | _ => subst hx; rfl
    simp only [allOne, hy]
    exact VSL.one hl hb.2
/-- One block is written anew. -/
theorem hs_write (hM : HS ν M snx H nx) {id r : Nat} {so so' : SO (stdA fs ov)} {lo : LO} (hg : M.get id = some so) (hm : so.mine = true) (hm' : so'.mine = true) (hr : ν id = some (r, 0)) (ho : OS ν (H.set r (some lo)) id so') : HS ν (M.set id (some so')) snx (H.set r (some lo)) nx := by
  refine ⟨fun id' so1 h1 => ?_, hM.lt, fun id1 id2 r1 o1 o2 so1 h1 h2 h3 h4 => ?_⟩
  · rw [Al.get_set] at h1
    by_cases e : id' = id
    · subst e; rw [if_pos rfl] at h1; cases h1
      exact ⟨(hM.at_ _ _ hg).1, ho⟩
    · rw [if_neg e] at h1
      obtain ⟨hl, hO⟩ := hM.at_ id' so1 h1
      have hne : ∀ r' o', ν id' = some (r', o') → r' ≠ r := fun r' o' hr' er => by
        subst er
        exact e (hM.inj id id' r' 0 o' so hg hm hr hr').symm
      refine ⟨hl, ?_⟩
      cases so1 with
      | row t cs =>
        obtain ⟨r', lcs, a1, a2, a3⟩ := hO
        exact ⟨r', lcs, a1, by rw [Tr.get_set_ne _ _ (hne _ _ a1)]; exact a2, a3⟩
      | list t ks own h =>
        obtain ⟨a0, a1, a2⟩ := hO
        refine ⟨a0, a1.imp_right ?_, fun ho r' o' hr' => ?_⟩
        · rintro ⟨r', o', lo', b1, b2, b3⟩
          exact ⟨r', o', lo', b1, by rw [Tr.get_set_ne _ _ (hne _ _ b1)]; exact b2, b3⟩
        · obtain ⟨c1, lcs, c2, c3⟩ := a2 ho r' o' hr'
          exact ⟨c1, lcs, by rw [Tr.get_set_ne _ _ (hne _ _ hr')]; exact c2, c3⟩
  · rw [Al.get_set] at h1
    by_cases e : id1 = id
    · subst e; exact hM.inj id1 id2 r1 o1 o2 so hg hm h3 h4
    · rw [if_neg e] at h1; exact hM.inj id1 id2 r1 o1 o2 so1 h1 h2 h3 h4
theorem sStore_val (hF : FS ν T L) (hlt : ∀ id r o, ν id = some (r, o) → r < nx) {t : TypeId} {x y : Operand} {K : KS (stdA fs ov)} {H' : Hp} (hO : ∀ id so r o, evO L x = some (.p r o) → ν id = some (r, 0) → M.get id = some so → OS ν H' id so) (h : sStore P T M snx t x y K) :
    ∃ id r u cs cs' rs, M.get id = some (.row u cs) ∧ ν id = some (r, 0) ∧ (∃ o, evO L x = some (.p r o)) ∧ (∃ lo, H'.get r = some lo) ∧ VSL ν cs' rs ∧ evStore P L H' nx t x y = some ⟨.tup [], H'.set r (some (.row u rs)), nx, [r]⟩ ∧ K (.tup []) (M.set id (some (.row u cs'))) snx [id] := by
  unfold sStore at h
  split at h
  · rename_i id off v n hx hy hs
    split at h
    · rename_i u cs hg
      cases hc : (Nat.beq v.cells.length n && sAllOne v.cells)
      · simp only [hc, cond_false] at h <;> exact h.elim
      · simp only [hc, cond_true] at h
        simp only [Bool.and_eq_true] at hc
        cases hp : gpt off cs v.cells with
        | none => simp only [hp] at h <;> exact h.elim
        | some cs' =>
          simp only [hp, Al.force_eq] at h
          obtain ⟨lx, h1, h2⟩ := sO_ok hF hx
          obtain ⟨ly, h3, h4⟩ := sO_ok hF hy
          obtain ⟨r, hr, rfl⟩ := h2
          obtain ⟨r', lcs, hr', hH, hcs⟩ := hO id _ r off h1 hr hg
          rw [hr] at hr'; cases hr'
          obtain ⟨rs, h5, h6⟩ := VSL.pt hp hcs h4.cells
          have hb : Nat.blt r nx = true := by simpa using hlt id r 0 hr
          have hl : Nat.beq ly.cells.length n = true := by rw [h4.cells.length]; exact hc.1
          exact ⟨id, r, u, cs, cs', rs, hg, hr, ⟨off, h1⟩, ⟨_, hH⟩, h6, by simp [evStore, h1, h3, hs, hl, VSL.one h4.cells hc.2, hb, wrt, hH, h5, Tr.force_eq], h⟩
    · exact h.elim
  · exact h.elim
theorem sStore_ok (hF : FS ν T L) (hM : HS ν M snx H nx) {t : TypeId} {x y : Operand} {K : KS (stdA fs ov)} (h : sStore P T M snx t x y K) : GotBy ν snx H nx K (evStore P L H nx t x y) := by
  unfold sStore at h
  split at h
  · rename_i id off v n hx hy hs
    split at h
    · rename_i u cs hg
      cases hc : (Nat.beq v.cells.length n && sAllOne v.cells)
      · simp only [hc, cond_false] at h <;> exact h.elim
      · simp only [hc, cond_true] at h
        simp only [Bool.and_eq_true] at hc
        cases hp : gpt off cs v.cells with
        | none => simp only [hp] at h <;> exact h.elim
        | some cs' =>
          simp only [hp, Al.force_eq] at h
          obtain ⟨lx, h1, h2⟩ := sO_ok hF hx
          obtain ⟨ly, h3, h4⟩ := sO_ok hF hy
          obtain ⟨r, hr, rfl⟩ := h2
          obtain ⟨r', lcs, hr', hH, hcs⟩ := (hM.at_ id _ hg).2
          rw [hr] at hr'; cases hr'
          obtain ⟨rs, h5, h6⟩ := VSL.pt hp hcs h4.cells
          have hlt := (hM.lt id r 0 hr).1
          have hb : Nat.blt r nx = true := by simpa using hlt
          have hl : Nat.beq ly.cells.length n = true := by rw [h4.cells.length]; exact hc.1
          refine ⟨⟨.tup [], H.set r (some (.row u rs)), nx, [r]⟩, ν, .tup [], M.set id (some (.row u cs')), snx, [id], ?_, ?_, h⟩
          · simp [evStore, h1, h3, hs, hl, VSL.one h4.cells hc.2, hb, wrt, hH, h5, Tr.force_eq]
          · refine ⟨fun _ _ => rfl, fun id q o h1 h2 => by have := (hM.lt id q o h2).2; omega, Nat.le_refl _, Nat.le_refl _, ?_, ⟨[], rfl, rfl⟩, fun q hq => ⟨id, by simp, 0, by simp at hq; subst hq; exact hr⟩, fun q _ hq => (by simp at hq; exact Tr.get_set_ne _ _ hq), fun q hq => (by simp at hq; subst hq; exact .inr ⟨_, hH⟩), fun h => absurd rfl h⟩
            exact hs_write hM hg rfl rfl hr ⟨r, rs, hr, Tr.get_set_same _ _ _, h6⟩
    · exact h.elim
  · exact h.elim
theorem OS.sub {H' : Hp} {ν' : Nm} {id : Nat} {so : SO (stdA fs ov)} (hO : OS ν H id so) (hle : NLe ν ν') (hid : ν' id = ν id) (hk : ∀ r o lo, ν id = some (r, o) → H.get r = some lo → H'.get r = some lo) : OS ν' H' id so := by
  cases so with
  | row t cs =>
    obtain ⟨r, lcs, a1, a2, a3⟩ := hO
    exact ⟨r, lcs, hle _ _ a1, hk _ _ _ a1 a2, a3.mono hle⟩
  | list t ks own h =>
    obtain ⟨a0, a1, a2⟩ := hO
    refine ⟨a0, a1.imp_right ?_, fun ho r o hr => ?_⟩
    · rintro ⟨r, o, lo, b1, b2, b3⟩
      exact ⟨r, o, lo, hle _ _ b1, hk _ _ _ b1 b2, b3⟩
    · rw [hid] at hr
      obtain ⟨c1, lcs, c2, c3⟩ := a2 ho r o hr
      exact ⟨c1, lcs, hk _ _ _ hr c2, c3⟩
def updN (ν : Nm) (id : Nat) (x : Option (Nat × Nat)) : Nm := fun j => if j = id then x else ν j
theorem updN_same {id : Nat} {x : Option (Nat × Nat)} : updN ν id x id = x := by simp [updN]
theorem updN_ne {id j : Nat} {x : Option (Nat × Nat)} (h : j ≠ id) : updN ν id x j = ν j := by simp [updN, h]
/-- A new block. -/
theorem hs_new (hM : HS ν M snx H nx) {so : SO (stdA fs ov)} {lo : LO} (ho : ∀ ν', NLe ν ν' → ν' snx = some (nx, 0) → ∀ H' : Hp, H'.get nx = some lo → OS ν' H' snx so) :
    HS (updN ν snx (some (nx, 0))) (M.set snx (some so)) (snx + 1) (H.set nx (some lo)) (nx + 1) ∧ NLe ν (updN ν snx (some (nx, 0))) := by
  have hle : NLe ν (updN ν snx (some (nx, 0))) := fun id x hx => by
    obtain ⟨r, o⟩ := x
    have := (hM.lt id r o hx).2
    rw [updN_ne (by omega)]; exact hx
  refine ⟨⟨fun id so1 h1 => ?_, fun id r o h1 => ?_, fun id1 id2 r1 o1 o2 so1 h1 h2 h3 h4 => ?_⟩, hle⟩
  · rw [Al.get_set] at h1
    by_cases e : id = snx
    · subst e; rw [if_pos rfl] at h1; cases h1
      exact ⟨by omega, ho _ hle updN_same _ (Tr.get_set_same _ _ _)⟩
    · rw [if_neg e] at h1
      obtain ⟨hl, hO⟩ := hM.at_ id so1 h1
      exact ⟨by omega, hO.sub hle (updN_ne e) fun r o lo' a1 a2 => by
        have := (hM.lt id r o a1).1
        rw [Tr.get_set_ne _ _ (by omega)]; exact a2⟩
  · by_cases e : id = snx
    · subst e; rw [updN_same] at h1; cases h1; omega
    · rw [updN_ne e] at h1; have := hM.lt id r o h1; omega
  · rw [Al.get_set] at h1
    have old : ∀ {i r o}, i ≠ snx → updN ν snx (some (nx, 0)) i = some (r, o) → r < nx := fun e h => by rw [updN_ne e] at h; exact (hM.lt _ _ _ h).1
    by_cases e1 : id1 = snx
    · subst e1; rw [updN_same] at h3; cases h3
      by_cases e2 : id2 = id1
      · exact e2.symm
      · have := old e2 h4; omega
    · rw [if_neg e1] at h1
      by_cases e2 : id2 = snx
      · subst e2; rw [updN_same] at h4; cases h4; have := old e1 h3; omega
      · rw [updN_ne e1] at h3; rw [updN_ne e2] at h4
        exact hM.inj id1 id2 r1 o1 o2 so1 h1 h2 h3 h4
theorem sFresh_ok (hM : HS ν M snx H nx) {so : SO (stdA fs ov)} {lo : LO} {v : SV (stdA fs ov)} {lv : LV} {K : KS (stdA fs ov)} (h : sFresh M snx so v [] K) (ho : ∀ ν', NLe ν ν' → ν' snx = some (nx, 0) → ∀ H' : Hp, H'.get nx = some lo → OS ν' H' snx so)
    (hv : ∀ ν' : Nm, ν' snx = some (nx, 0) → VS ν' v lv) {f : Nat → LV} (hf : f nx = lv) : GotBy ν snx H nx K (fresh H nx lo f []) := by
  simp only [sFresh, Al.force_eq] at h
  obtain ⟨h1, h2⟩ := hs_new hM ho
  refine ⟨⟨lv, H.set nx (some lo), nx + 1, []⟩, updN ν snx (some (nx, 0)), v, M.set snx (some so), snx + 1, [], by rw [fresh_eq, hf], ?_, h⟩
  exact ⟨fun id hid => updN_ne (by omega), fun id q o a1 a2 => by
    by_cases e : id = snx
    · subst e; rw [updN_same] at a2; cases a2; exact Nat.le_refl _
    · rw [updN_ne e] at a2; have := (hM.lt _ _ _ a2).2; omega, by dsimp only; omega, by omega, h1, hv _ updN_same, fun q hq => (by cases hq), fun q hq _ => Tr.get_set_ne _ _ (by omega), fun q hq => (by cases hq), fun _ => by omega⟩
theorem sRep_ok {z : List (SV (stdA fs ov))} {lz : List LV} (h : VSL ν z lz) : ∀ n, VSL ν (sRep n z) (rep n lz)
  | 0 => rfl
  | n + 1 => by simp only [sRep, rep, ap_eq]; exact h.append (sRep_ok h n)
theorem foldS_ok {f : Int → Int → Int} {k : IntKind} : ∀ {l : List (SV (stdA fs ov))} {ls : List LV} {x : Int} {v : SV (stdA fs ov)}, foldS (A := stdA fs ov) f k x l = some v → VSL ν l ls → ∃ lv, foldI f k x ls = some lv ∧ VS ν v lv
  | [], ls, x, v, h, hl => by simp [foldS] at h; subst h; rw [hl]; exact ⟨_, rfl, rfl⟩
  | y :: l, ls, x, v, h, hl => by
    obtain ⟨ly, r, rfl, hy, hl⟩ := hl
    cases y <;> simp only [foldS] at h <;> try cases h
    rename_i k' n
    obtain rfl := hy
    cases hk : decide (k = k')
    · simp [hk] at h
    · simp only [hk, cond_true] at h
      obtain ⟨lv, h1, h2⟩ := foldS_ok h hl
      exact ⟨lv, by simp [foldI, hk, nI_eq, h1], h2⟩
end Go.Rx
