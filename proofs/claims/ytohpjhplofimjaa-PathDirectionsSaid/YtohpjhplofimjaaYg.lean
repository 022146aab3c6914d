/-
  A symbolic run: regions that draw their order. No program.
-/
import Derived.Test.YtohpjhplofimjaaYf
set_option linter.unusedSimpArgs false
set_option linter.unusedVariables false
set_option linter.unusedSectionVars false
namespace Go.Rx
open Go
variable {fs : Fs} {ov : Bool} {ν : Nm} {P : Program} {T : Al (SV (stdA fs ov))} {L : Tr LV} {M : SH (stdA fs ov)} {H : Hp} {snx nx : Nat}

theorem sub_bits {a m : Nat} (h : Nat.beq (Nat.land a m) a = true) : ∀ i, a.testBit i = true → m.testBit i = true := fun i hi => by
  have e : a &&& m = a := (beq_iff _ _).1 h
  rw [← e, Nat.testBit_and, Bool.and_eq_true] at hi
  exact hi.2
theorem or_bits {a k i : Nat} : (Nat.lor a (Nat.pow 2 k)).testBit i = true ↔ a.testBit i = true ∨ i = k := by
  show (a ||| 2 ^ k).testBit i = true ↔ _
  rw [Nat.testBit_or, Nat.testBit_two_pow, Bool.or_eq_true, decide_eq_true_eq]
  exact ⟨fun h => h.elim .inl fun e => .inr e.symm, fun h => h.elim .inl fun e => .inr e.symm⟩
abbrev tops : Nat → Bool := fun _ => true
theorem heapOf_cons (S : Nat → Bool) (H : Hp) (k : Nat) (D : Del) (ds : List (Nat × Del)) : heapOf S H ((k, D) :: ds) = if S k = true then applyD (heapOf S H ds) D else heapOf S H ds := by
  simp only [heapOf]; cases S k <;> rfl
theorem heap_sub {S : Nat → Bool} : ∀ {ds : List (Nat × Del)}, (∀ i D, (i, D) ∈ ds → S i = true) → heapOf S H ds = heapOf tops H ds
  | [], _ => rfl
  | (k, D) :: ds, h => by
    rw [heapOf_cons, heapOf_cons, if_pos (h k D (by simp)), if_pos rfl, heap_sub fun i D' hi => h i D' (by simp [hi])]
theorem applyD_ne {q : Nat} : ∀ {D : Del} {H : Hp}, (∀ x ∈ D, x.1 ≠ q) → (applyD H D).get q = H.get q
  | [], H, _ => rfl
  | (i, o) :: D, H, h => by
    rw [applyD_cons, applyD_ne fun x hx => h x (by simp [hx]), Tr.get_set_ne _ _ fun e => h (i, o) (by simp) e.symm]
theorem heap_old {S : Nat → Bool} {q : Nat} : ∀ {ds : List (Nat × Del)}, (∀ i D, (i, D) ∈ ds → S i = true ∨ ∀ x ∈ D, x.1 ≠ q) → (heapOf S H ds).get q = (heapOf tops H ds).get q
  | [], _ => rfl
  | (k, D) :: ds, h => by
    have ih := heap_old fun i D' hi => h i D' (List.mem_cons_of_mem _ hi)
    rw [heapOf_cons, heapOf_cons, if_pos (show tops k = true from rfl)]
    rcases h k D (by simp) with h1 | h1
    · rw [if_pos h1]
      have key : ∀ (D : Del) (A B : Hp), A.get q = B.get q → (applyD A D).get q = (applyD B D).get q := by
        intro D
        induction D with
        | nil => exact fun A B h => h
        | cons x D ih =>
          intro A B hAB
          rw [applyD_cons, applyD_cons]
          refine ih _ _ ?_
          rw [Tr.get_set, Tr.get_set, hAB]
      exact key D _ _ ih
    · rw [applyD_ne h1]
      split
      · rw [applyD_ne h1]; exact ih
      · exact ih
theorem OS.same {H' : Hp} {id : Nat} {so : SO (stdA fs ov)} (hO : OS ν H id so) (hk : ∀ r o lo, ν id = some (r, o) → H.get r = some lo → H'.get r = some lo) : OS ν H' id so := hO.sub (fun _ _ h => h) rfl hk
theorem HS.same {H' : Hp} {nx' : Nat} (hM : HS ν M snx H nx) (hk : ∀ r, r < nx → H'.get r = H.get r) (hn : nx ≤ nx') : HS ν M snx H' nx' :=
  ⟨fun id so h => ⟨(hM.at_ id so h).1, (hM.at_ id so h).2.same fun r o lo h1 h2 => by rw [hk r (hM.lt id r o h1).1]; exact h2⟩, fun id r o h => ⟨Nat.lt_of_lt_of_le (hM.lt id r o h).1 hn, (hM.lt id r o h).2⟩, hM.inj⟩
/-- What holds half way through a region that draws its order. -/
structure Half (W : Nat → Prop) (ν₀ : Nm) (snx₀ nx₀ : Nat) (H₀ : Hp) (lw₀ wr₀ : List Nat) (ν : Nm) (M : SH (stdA fs ov)) (snx nx : Nat) (wr lw : List Nat) (rd al ws : Nat) (g : Log) : Prop where
  top : HS ν M snx (heapOf tops H₀ g.ds) nx
  bits : ∀ i D, (i, D) ∈ g.ds → (al.testBit i = true ∨ ws.testBit i = true) ∧ (ws.testBit i = true ∨ ∀ x ∈ D, nx₀ ≤ x.1)
  hsb : ∀ i Hi, (i, Hi) ∈ g.hs → rd.testBit i = true
  fsb : ∀ i fo, (i, fo) ∈ g.fs → ws.testBit i = true
  lo : Lo snx₀ ν₀ ν
  nw : ∀ id q o, snx₀ ≤ id → ν id = some (q, o) → nx₀ ≤ q
  up : nx₀ ≤ nx
  sup : snx₀ ≤ snx
  wrs : ∀ q ∈ lw, W q ∨ ∃ id ∈ wr, ∃ o, ν id = some (q, o)
  mono : ∀ q ∈ lw₀, q ∈ lw
  keep : ∀ q, q < nx₀ → q ∉ lw → (heapOf tops H₀ g.ds).get q = H₀.get q
  swr : ∀ id ∈ wr₀, id ∈ wr
  keepS : ∀ q, q < nx₀ → (∀ id ∈ wr, ∀ o, ν id ≠ some (q, o)) → (heapOf tops H₀ g.ds).get q = H₀.get q
  has : ∀ q ∈ lw, q ∈ lw₀ ∨ nx₀ ≤ q ∨ ∃ o, H₀.get q = some o
  lt0 : ∀ id r o, ν₀ id = some (r, o) → r < nx₀ ∧ id < snx₀
theorem nsees_ok {m : Nat} {H : Hp} : ∀ {l : List (Nat × List Nat)}, (∀ i fo, (i, fo) ∈ l → m.testBit i = true ∨ seenIn H fo = false) → noneSees m H l = true
  | [], _ => rfl
  | (i, fo) :: r, h => by
    have ih := nsees_ok fun i' fo' hi => h i' fo' (List.mem_cons_of_mem _ hi)
    simp only [noneSees]
    cases hb : m.testBit i
    · have h2 := (h i fo (by simp)).resolve_left (by simp [hb])
      rw [h2]; exact ih
    · exact ih
theorem seenBy_ok {m : Nat} {fo : List Nat} : ∀ {l : List (Nat × Hp)}, (∀ i Hi, (i, Hi) ∈ l → m.testBit i = true) → seenByNone m fo l = true
  | [], _ => rfl
  | (i, Hi) :: r, h => by
    have ih := seenBy_ok (fo := fo) fun i' fo' hi => h i' fo' (List.mem_cons_of_mem _ hi)
    simp only [seenByNone, h i Hi (by simp)]
    exact ih
theorem seenIn_l : ∀ {fo : List Nat}, seenIn .l fo = false
  | [] => rfl
  | x :: l => by simp only [seenIn, Tr.get_l]; exact seenIn_l
theorem quiet_ok {m : Nat} {H : Hp} {fo : List Nat} {fl : List (Nat × List Nat)} {hl : List (Nat × Hp)} (h1 : ∀ i fo, (i, fo) ∈ fl → m.testBit i = true ∨ seenIn H fo = false) (h2 : fo ≠ [] → ∀ i Hi, (i, Hi) ∈ hl → m.testBit i = true) : quietWith m H fo fl hl = true := by
  unfold quietWith
  rw [nsees_ok h1]
  cases fo with
  | nil => rfl
  | cons x l => exact seenBy_ok (h2 (by simp))
theorem allIn_of {H : Hp} {lo : Nat} : ∀ {l : List Nat}, (∀ id ∈ l, lo ≤ id ∨ ∃ o, H.get id = some o) → allIn H lo l = true
  | [], _ => rfl
  | x :: l, h => by
    simp only [allIn, allIn_of fun id hi => h id (List.mem_cons_of_mem _ hi), Bool.and_true, Bool.or_eq_true]
    rcases h x (by simp) with h | ⟨o, h⟩
    · exact .inl (by simpa using h)
    · exact .inr (by rw [h]; rfl)
theorem add_ds {k : Nat} {H : Hp} {fo : List Nat} {D : Del} {g : Log} : (Log.add k H fo D g).ds = if D = [] then g.ds else (k, D) :: g.ds := by
  obtain ⟨a, b, c⟩ := g; cases D <;> rfl
theorem add_hs {k : Nat} {H : Hp} {fo : List Nat} {D : Del} {g : Log} {i : Nat} {Hi : Hp} (h : (i, Hi) ∈ (Log.add k H fo D g).hs) : (i, Hi) ∈ g.hs ∨ (i = k ∧ H ≠ .l) := by
  obtain ⟨a, b, c⟩ := g
  cases H with
  | l => exact .inl h
  | n v x y =>
    rcases List.mem_cons.1 (show (i, Hi) ∈ (k, Tr.n v x y) :: b from h) with e | h
    · cases e; exact .inr ⟨rfl, by simp⟩
    · exact .inl h
theorem add_fs {k : Nat} {H : Hp} {fo : List Nat} {D : Del} {g : Log} {i : Nat} {f : List Nat} (h : (i, f) ∈ (Log.add k H fo D g).fs) : (i, f) ∈ g.fs ∨ (i = k ∧ fo ≠ []) := by
  obtain ⟨a, b, c⟩ := g
  cases fo with
  | nil => exact .inl h
  | cons x y =>
    rcases List.mem_cons.1 (show (i, f) ∈ (k, x :: y) :: c from h) with e | h
    · cases e; exact .inr ⟨rfl, by simp⟩
    · exact .inl h
theorem heap_add {k : Nat} {H H₀ : Hp} {fo : List Nat} {D : Del} {g : Log} : heapOf tops H₀ (Log.add k H fo D g).ds = applyD (heapOf tops H₀ g.ds) D := by
  rw [add_ds]
  cases D with
  | nil => rfl
  | cons x l => rw [if_neg (by simp), heapOf_cons, if_pos rfl]
theorem below_eq (n : Nat) : ∀ l : List Nat, below n l = l.filter (· < n)
  | [] => rfl
  | x :: l => by
    have ih := below_eq n l
    simp only [below]
    by_cases h : x < n
    · have : Nat.blt x n = true := by simpa using h
      simp only [this, cond_true, ih]
      rw [List.filter_cons_of_pos (by simpa using h)]
      generalize l.filter (· < n) = u
      cases u <;> rfl
    · have : Nat.blt x n = false := by rw [← Bool.not_eq_true]; simpa using h
      simp only [this, cond_false, ih]
      rw [List.filter_cons_of_neg (by simpa using h)]

theorem half_add {ν₀ : Nm} {snx₀ nx₀ : Nat} {H₀ : Hp} {W : Nat → Prop} {lw₀ wr₀ : List Nat} {wr lw : List Nat} {rd al ws : Nat} {g : Log} (hh : Half W ν₀ snx₀ nx₀ H₀ lw₀ wr₀ ν M snx nx wr lw rd al ws g)
    {ν' : Nm} {M' : SH (stdA fs ov)} {snx' mx' k rd' al' ws' : Nat} {wr' lw' fo : List Nat} {D : Del} {Hs : Hp}
    (hlo : Lo snx ν ν') (hnw : ∀ id q o, snx ≤ id → ν' id = some (q, o) → nx ≤ q) (hup : nx ≤ mx') (hsup : snx ≤ snx')
    (htop : HS ν' M' snx' (applyD (heapOf tops H₀ g.ds) D) mx') (hwr : ∀ q ∈ lw', ∃ id ∈ wr', ∃ o, ν id = some (q, o)) (hhas : ∀ q ∈ lw', nx ≤ q ∨ ∃ o, (heapOf tops H₀ g.ds).get q = some o)
    (hD : ∀ x ∈ D, x.1 ∈ lw' ∨ nx ≤ x.1) (hrd : Hs ≠ .l → rd'.testBit k = true) (hbit : D ≠ [] → al'.testBit k = true ∨ ws'.testBit k = true) (hbit2 : lw' ≠ [] → ws'.testBit k = true) (hfo : fo ≠ [] → lw' ≠ [])
    (mrd : ∀ i, rd.testBit i = true → rd'.testBit i = true) (mal : ∀ i, al.testBit i = true → al'.testBit i = true) (mws : ∀ i, ws.testBit i = true → ws'.testBit i = true) :
    Half W ν₀ snx₀ nx₀ H₀ lw₀ wr₀ ν' M' snx' mx' (addW wr' wr) (addW lw' lw) rd' al' ws' (Log.add k Hs fo D g) := by
  have hle : NLe ν ν' := hh.top.le hlo
  refine ⟨?_, fun i D' hi => ?_, fun i Hi hi => ?_, fun i f hi => ?_, fun id hid => ?_, fun id q o h1 h2 => ?_, Nat.le_trans hh.up hup, Nat.le_trans hh.sup hsup, fun q hq => ?_, fun q hq => mem_addW.2 (.inr (hh.mono q hq)), fun q hq hn => ?_, fun id hid => mem_addW.2 (.inr (hh.swr id hid)), fun q hq hn => ?_, fun q hq => ?_, hh.lt0⟩
  · rw [heap_add]; exact htop
  · have old : (i, D') ∈ g.ds → (al'.testBit i = true ∨ ws'.testBit i = true) ∧ (ws'.testBit i = true ∨ ∀ x ∈ D', nx₀ ≤ x.1) := fun hi => by
      obtain ⟨h1, h2⟩ := hh.bits i D' hi
      exact ⟨h1.imp (mal i) (mws i), h2.imp_left (mws i)⟩
    rw [add_ds] at hi
    split at hi
    · exact old hi
    · rename_i hne
      rcases List.mem_cons.1 hi with e | hi
      · cases e
        refine ⟨hbit hne, ?_⟩
        by_cases hl : lw' = []
        · refine .inr fun x hx => ?_
          rcases hD x hx with h | h
          · rw [hl] at h; cases h
          · exact Nat.le_trans hh.up h
        · exact .inl (hbit2 hl)
      · exact old hi
  · rcases add_hs hi with h | ⟨rfl, h⟩
    · exact mrd i (hh.hsb i Hi h)
    · exact hrd h
  · rcases add_fs hi with h | ⟨rfl, h⟩
    · exact mws i (hh.fsb i f h)
    · exact hbit2 (hfo h)
  · rw [hlo id (Nat.lt_of_lt_of_le hid hh.sup), hh.lo id hid]
  · by_cases hlt : id < snx
    · rw [hlo id hlt] at h2; exact hh.nw id q o h1 h2
    · exact Nat.le_trans hh.up (hnw id q o (by omega) h2)
  · rcases mem_addW.1 hq with h | h
    · obtain ⟨id, h1, o, h2⟩ := hwr q h
      exact .inr ⟨id, mem_addW.2 (.inl h1), o, hle _ _ h2⟩
    · rcases hh.wrs q h with hW | ⟨id, h1, o, h2⟩
      · exact .inl hW
      · exact .inr ⟨id, mem_addW.2 (.inr h1), o, hle _ _ h2⟩
  · rw [heap_add, applyD_ne fun x hx e => ?_]
    · exact hh.keep q hq fun h => hn (mem_addW.2 (.inr h))
    · rcases hD x hx with h | h
      · rw [e] at h; exact hn (mem_addW.2 (.inl h))
      · have := hh.up; omega
  · rw [heap_add, applyD_ne fun x hx e => ?_]
    · refine hh.keepS q hq fun id hid o he => hn id (mem_addW.2 (.inr hid)) o (hle _ _ he)
    · rcases hD x hx with h | h
      · rw [e] at h
        obtain ⟨id, h1, o, h2⟩ := hwr q h
        exact hn id (mem_addW.2 (.inl h1)) o (hle _ _ h2)
      · have := hh.up; omega
  · rcases mem_addW.1 hq with h | h
    · rcases hhas q h with h1 | ⟨o, h1⟩
      · exact .inr (.inl (Nat.le_trans hh.up h1))
      · by_cases hlt : nx₀ ≤ q
        · exact .inr (.inl hlt)
        · by_cases hw : q ∈ lw
          · exact hh.has q hw
          · exact .inr (.inr ⟨o, by rw [← hh.keep q (by omega) hw]; exact h1⟩)
    · exact hh.has q h

/-! ### Operations by what they look at -/
theorem sBuiltin_val {b : Builtin} {ts : List TypeId} {args : List (SV (stdA fs ov))} {la : List LV} {K : KS (stdA fs ov)} (h : sBuiltin P b ts args M snx K) (ha : VSL ν args la) :
    ∃ v lv, (∀ H, evBuiltin P b ts la H nx = some ⟨lv, H, nx, []⟩) ∧ VS ν v lv ∧ K v M snx [] := by
  unfold sBuiltin at h
  split at h
  · rename_i t x
    obtain ⟨lx, r, rfl, hx, hr⟩ := ha
    obtain rfl := hr
    split at h
    · rename_i e hu
      obtain rfl := hx
      exact ⟨.i .i64 (0 : Int), .i .i64 0, fun H => by simp only [evBuiltin, hu], rfl, h⟩
    · rename_i e id off len cap hu
      obtain ⟨r, hr, rfl⟩ := hx
      exact ⟨.i .i64 (len : Int), .i .i64 (.ofNat len), fun H => by simp only [evBuiltin, hu], rfl, h⟩
    · rename_i e own id n hu
      obtain ⟨hn, ⟨rfl, h3⟩ | ⟨r, o, hr, ⟨rfl, rfl⟩ | ⟨_, c, hc, rfl⟩⟩⟩ := hx
      · have h3 : n = (0 : Int) := h3
        subst h3
        exact ⟨.i .i64 (0 : Int), .i .i64 0, fun H => by simp only [evBuiltin, hu], rfl, h⟩
      · exact ⟨.i .i64 n, .i .i64 (.ofNat (Int.toNat n)), fun H => by simp only [evBuiltin, hu], by show LV.i _ _ = LV.i _ _; rw [show Int.ofNat (Int.toNat n) = n from Int.toNat_of_nonneg hn], h⟩
      · exact ⟨.i .i64 n, .i .i64 (.ofNat (Int.toNat n)), fun H => by simp only [evBuiltin, hu], by show LV.i _ _ = LV.i _ _; rw [show Int.ofNat (Int.toNat n) = n from Int.toNat_of_nonneg hn], h⟩
    · rename_i n e hu
      exact ⟨.i .i64 (n : Int), .i .i64 (.ofNat n), fun H => by simp only [evBuiltin, hu], rfl, h⟩
    · exact h.elim
  · rename_i k x l
    obtain ⟨lx, r, rfl, hx, hr⟩ := ha
    obtain rfl := hx
    obtain ⟨v, h1, h2⟩ := opt_ok h
    obtain ⟨lv, h3, h4⟩ := foldS_ok h1 hr
    exact ⟨v, lv, fun H => by simp only [evBuiltin, h3], h4, h2⟩
  · rename_i k x l
    obtain ⟨lx, r, rfl, hx, hr⟩ := ha
    obtain rfl := hx
    obtain ⟨v, h1, h2⟩ := opt_ok h
    obtain ⟨lv, h3, h4⟩ := foldS_ok h1 hr
    exact ⟨v, lv, fun H => by simp only [evBuiltin, h3], h4, h2⟩
  · exact h.elim
/-- An operation that looks at no memory: a value, or a new block. -/
theorem sOp_none {cs : CallS (stdA fs ov)} {call : CallT} (hF : FS ν T L) {op : Op} {K : KS (stdA fs ov)} (hk : looks T op = none) (h : sOp P cs T M snx op K) :
    (∃ v lv, (∀ H, evOp P call L H nx op = some ⟨⟨lv, H, nx, []⟩, nx⟩) ∧ VS ν v lv ∧ K v M snx []) ∨
    (∃ so lo v lv f, (∀ H, evOp P call L H nx op = res (fresh H nx lo f [])) ∧ f nx = lv ∧ sFresh M snx so v [] K ∧ (∀ ν', NLe ν ν' → ν' snx = some (nx, 0) → ∀ H' : Hp, H'.get nx = some lo → OS ν' H' snx so) ∧ (∀ ν' : Nm, ν' snx = some (nx, 0) → VS ν' v lv)) := by
  have pure : ∀ {op : Op}, sPure P T op (fun v => K v M snx []) → (∀ H, evOp P call L H nx op = res (evPureO P L H nx op)) → (∃ v lv, (∀ H, evOp P call L H nx op = some ⟨⟨lv, H, nx, []⟩, nx⟩) ∧ VS ν v lv ∧ K v M snx []) := fun {op} hp he => by
    obtain ⟨v, lv, h1, h2, h3⟩ := sPure_ok hF hp
    exact ⟨v, lv, fun H => by rw [he]; simp only [evPureO, h1, res], h2, h3⟩
  cases op
  case load t x => simp only [looks] at hk; split at hk <;> cases hk
  case store t x y => cases hk
  case alloc t =>
    simp only [sOp] at h
    split at h
    · rename_i z hz
      obtain ⟨lz, h1, h2⟩ := sZero_ok (ν := ν) hz
      exact .inr ⟨_, .row t lz.cells, .p snx 0, .p nx 0, fun id => .p id 0, fun H => by simp only [evOp, evAlloc, h1], rfl, h, fun ν' hle hn H' hH => ⟨nx, lz.cells, hn, hH, h2.cells.mono hle⟩, fun ν' hn => ⟨nx, hn, rfl⟩⟩
    · exact h.elim
  case box t x =>
    simp only [sOp] at h
    split at h
    · rename_i z hz
      obtain ⟨lz, h1, h2⟩ := sO_ok hF hz
      exact .inr ⟨_, .row t lz.cells, .p snx 0, .p nx 0, fun id => .p id 0, fun H => by simp only [evOp, evBox, h1], rfl, h, fun ν' hle hn H' hH => ⟨nx, lz.cells, hn, hH, h2.cells.mono hle⟩, fun ν' hn => ⟨nx, hn, rfl⟩⟩
    · exact h.elim
  case buildSlice t len ps =>
    simp only [sOp] at h
    unfold sBuildSl at h
    split at h
    · rename_i e hu
      split at h
      · rename_i z n l hz hs hl
        obtain ⟨lz, h1, h2⟩ := sZero_ok (ν := ν) hz
        obtain ⟨ll, h3, h4⟩ := sPartsO_ok hF hl
        rw [← h2.cells.length] at h
        cases hc : (Nat.beq lz.cells.length n && Nat.blt 0 n && Nat.ble (len * n) 16777216)
        · simp only [hc, cond_false] at h <;> exact h.elim
        · simp only [hc, cond_true] at h
          cases hf : sFill (fun i => some (i * n, n)) (sRep len z.cells) l with
          | none => simp only [hf] at h <;> exact h.elim
          | some cs =>
            simp only [hf] at h
            obtain ⟨lr, h5, h6⟩ := sFill_ok hf h4 (sRep_ok h2.cells len)
            exact .inr ⟨_, .row e lr, .sl snx 0 len len, .sl nx 0 len len, fun id => .sl id 0 len len, fun H => by simp only [evOp, evBuildSl, hu, h1, hs, h3, hc, cond_true, h5], rfl, h, fun ν' hle hn H' hH => ⟨nx, lr, hn, hH, h6.mono hle⟩, fun ν' hn => ⟨nx, hn, rfl⟩⟩
      · exact h.elim
    · exact h.elim
  case call c =>
    obtain ⟨callee, args, ts⟩ := c
    simp only [sOp, sCallee] at h
    cases callee with
    | value f => cases hk
    | invoke x m => exact h.elim
    | builtin b =>
      simp only at h
      split at h
      · rename_i av ha
        obtain ⟨la, h1, h2⟩ := sOs_ok hF ha
        obtain ⟨v, lv, h3, h4, h5⟩ := sBuiltin_val (nx := nx) h h2
        exact .inl ⟨v, lv, fun H => by simp only [evOp, evCallee, h1, h3, res], h4, h5⟩
      · exact h.elim
  case makeSlice t l c => exact absurd h (by simp [sOp, sPure])
  all_goals exact .inl (pure h fun H => rfl)
end Go.Rx
