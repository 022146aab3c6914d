/-
  A symbolic run: the algebra of integers, truth values and lists; what its values and memory say of the run of closed code. No program.
  A symbolic run: operations that do not look at memory. No program.
  A symbolic run: every operation that does not look at memory. No program.
  A symbolic run: memory. No program.
  A symbolic run: what is appended. No program.
  A symbolic run: append. No program.
  A symbolic run: the builtin append. No program.
  A symbolic run: operations, regions that keep their order. No program.
  A symbolic run: regions that draw their order. No program.
  A symbolic run: regions that draw their order, whole. No program.
  A symbolic run: codes, calls. No program.
  A symbolic run: what a call leaves; calls. No program.
  A symbolic run: what it says of calls that only read. No program.
  A symbolic run: from a call of the run to a call of the machine. No program.
  A symbolic run: loops by invariants. No program.
  A symbolic run: loops that are told of, by function and path. No program.
-/
import Derived.Test.YtfjilbjofaommaaYk

set_option linter.unusedSimpArgs false
set_option linter.unusedVariables false
set_option linter.unusedSectionVars false
namespace Go.Rx
open Go
variable {fs : Fs} {ov : Bool} {ν : Nm} {P : Program} {T : Al (SV (stdA fs ov))} {L : Tr LV} {M : SH (stdA fs ov)} {H : Hp} {snx nx : Nat}

theorem sub_bits {a m : Nat} (h : Nat.beq (Nat.land a m) a = true) : ∀ i, a.testBit i = true → m.testBit i = true := fun i hi => by
  have e : a &&& m = a := (beq_iff _ _).1 h
  rw [← e, Nat.testBit_and, Bool.and_eq_true] at hi
  exact hi.2
theorem or_bits {a k i : Nat} : (Nat.lor a (Nat.pow 2 k)).testBit i = true ↔ a.testBit i = true ∨ i = k := by
  show (a ||| 2 ^ k).testBit i = true ↔ _
  rw [Nat.testBit_or, Nat.testBit_two_pow, Bool.or_eq_true, decide_eq_true_eq]
  exact ⟨fun h => h.elim .inl fun e => .inr e.symm, fun h => h.elim .inl fun e => .inr e.symm⟩
abbrev tops : Nat → Bool := fun _ => true
theorem heapOf_cons (S : Nat → Bool) (H : Hp) (k : Nat) (D : Del) (ds : List (Nat × Del)) : heapOf S H ((k, D) :: ds) = if S k = true then applyD (heapOf S H ds) D else heapOf S H ds := by
  simp only [heapOf]; cases S k <;> rfl
theorem heap_sub {S : Nat → Bool} : ∀ {ds : List (Nat × Del)}, (∀ i D, (i, D) ∈ ds → S i = true) → heapOf S H ds = heapOf tops H ds
  | [], _ => rfl
  | (k, D) :: ds, h => by
    rw [heapOf_cons, heapOf_cons, if_pos (h k D (by simp)), if_pos rfl, heap_sub fun i D' hi => h i D' (by simp [hi])]
theorem applyD_ne {q : Nat} : ∀ {D : Del} {H : Hp}, (∀ x ∈ D, x.1 ≠ q) → (applyD H D).get q = H.get q
  | [], H, _ => rfl
  | (i, o) :: D, H, h => by
    rw [applyD_cons, applyD_ne fun x hx => h x (by simp [hx]), Tr.get_set_ne _ _ fun e => h (i, o) (by simp) e.symm]
theorem heap_old {S : Nat → Bool} {q : Nat} : ∀ {ds : List (Nat × Del)}, (∀ i D, (i, D) ∈ ds → S i = true ∨ ∀ x ∈ D, x.1 ≠ q) → (heapOf S H ds).get q = (heapOf tops H ds).get q
  | [], _ => rfl
  | (k, D) :: ds, h => by
    have ih := heap_old fun i D' hi => h i D' (List.mem_cons_of_mem _ hi)
    rw [heapOf_cons, heapOf_cons, if_pos (show tops k = true from rfl)]
    rcases h k D (by simp) with h1 | h1
    · rw [if_pos h1]
      have key : ∀ (D : Del) (A B : Hp), A.get q = B.get q → (applyD A D).get q = (applyD B D).get q := by
        intro D
        induction D with
        | nil => exact fun A B h => h
        | cons x D ih =>
          intro A B hAB
          rw [applyD_cons, applyD_cons]
          refine ih _ _ ?_
          rw [Tr.get_set, Tr.get_set, hAB]
      exact key D _ _ ih
    · rw [applyD_ne h1]
      split
      · rw [applyD_ne h1]; exact ih
      · exact ih
theorem OS.same {H' : Hp} {id : Nat} {so : SO (stdA fs ov)} (hO : OS ν H id so) (hk : ∀ r o lo, ν id = some (r, o) → H.get r = some lo → H'.get r = some lo) : OS ν H' id so := hO.sub (fun _ _ h => h) rfl hk
theorem HS.same {H' : Hp} {nx' : Nat} (hM : HS ν M snx H nx) (hk : ∀ r, r < nx → H'.get r = H.get r) (hn : nx ≤ nx') : HS ν M snx H' nx' :=
  ⟨fun id so h => ⟨(hM.at_ id so h).1, (hM.at_ id so h).2.same fun r o lo h1 h2 => by rw [hk r (hM.lt id r o h1).1]; exact h2⟩, fun id r o h => ⟨Nat.lt_of_lt_of_le (hM.lt id r o h).1 hn, (hM.lt id r o h).2⟩, hM.inj⟩
/-- What an entry tells of the blocks that the operation has written, changed, seen. -/
def WOK (ν : Nm) (w : Option (Option Nat)) (q : Nat) : Prop := w = some none ∨ ∃ id o, w = some (some id) ∧ ν id = some (q, o)
def LOK (ν : Nm) (l : Option (Option Nat)) (H : Hp) : Prop := l = some none ∨ ∃ id, l = some (some id) ∧ ∀ q lo, H.get q = some lo → ∃ o, ν id = some (q, o)
def EOK (ν : Nm) (snx nx : Nat) (e : DE) (D : Del) : Prop := ∃ a b, b ≤ nx ∧ e.hi ≤ snx ∧ (e.lo = e.hi → b ≤ a) ∧ (∀ id r o, ν id = some (r, o) → a ≤ r → r < b → e.lo ≤ id ∧ id < e.hi) ∧ ∀ x ∈ D, (a ≤ x.1 ∧ x.1 < b) ∨ WOK ν e.wr x.1
theorem WOK.mono {ν ν' : Nm} (h : NLe ν ν') {w : Option (Option Nat)} {q : Nat} (hw : WOK ν w q) : WOK ν' w q := hw.imp_right fun ⟨id, o, a, b⟩ => ⟨id, o, a, h _ _ b⟩
theorem LOK.mono {ν ν' : Nm} (h : NLe ν ν') {w : Option (Option Nat)} {H : Hp} (hw : LOK ν w H) : LOK ν' w H := hw.imp_right fun ⟨id, a, b⟩ => ⟨id, a, fun q lo hq => let ⟨o, c⟩ := b q lo hq; ⟨o, h _ _ c⟩⟩
theorem EOK.mono {ν ν' : Nm} {snx snx' nx nx' : Nat} (h : NLe ν ν') (hlo : Lo snx ν ν') (hn : ∀ id q o, snx ≤ id → ν' id = some (q, o) → nx ≤ q) (h1 : snx ≤ snx') (h2 : nx ≤ nx') {e : DE} {D : Del} (he : EOK ν snx nx e D) : EOK ν' snx' nx' e D := by
  obtain ⟨a, b, c1, c2, c3, c4, c5⟩ := he
  refine ⟨a, b, by omega, by omega, c3, fun id r o hr h3 h4 => ?_, fun x hx => (c5 x hx).imp_right fun h' => h'.mono h⟩
  by_cases hid : id < snx
  · rw [hlo id hid] at hr; exact c4 id r o hr h3 h4
  · have := hn id r o (by omega) hr; omega
/-- What holds half way through a region that draws its order. -/
structure Half (W : Nat → Prop) (ν₀ : Nm) (snx₀ nx₀ : Nat) (H₀ : Hp) (lw₀ wr₀ : List Nat) (ν : Nm) (M : SH (stdA fs ov)) (snx nx : Nat) (wr lw : List Nat) (es : List DE) (g : Log) : Prop where
  top : HS ν M snx (heapOf tops H₀ g.ds) nx
  ent : ∀ i D, (i, D) ∈ g.ds → ∃ e ∈ es, e.k = i ∧ EOK ν snx nx e D
  hsb : ∀ i Hi, (i, Hi) ∈ g.hs → ∃ e ∈ es, e.k = i ∧ LOK ν e.lk Hi
  fsb : ∀ i fo, (i, fo) ∈ g.fs → ∃ e ∈ es, e.k = i ∧ ∀ q ∈ fo, WOK ν e.wr q
  lo : Lo snx₀ ν₀ ν
  nw : ∀ id q o, snx₀ ≤ id → ν id = some (q, o) → nx₀ ≤ q
  up : nx₀ ≤ nx
  sup : snx₀ ≤ snx
  wrs : ∀ q ∈ lw, W q ∨ ∃ id ∈ wr, ∃ o, ν id = some (q, o)
  mono : ∀ q ∈ lw₀, q ∈ lw
  keep : ∀ q, q < nx₀ → q ∉ lw → (heapOf tops H₀ g.ds).get q = H₀.get q
  swr : ∀ id ∈ wr₀, id ∈ wr
  keepS : ∀ q, q < nx₀ → (∀ id ∈ wr, ∀ o, ν id ≠ some (q, o)) → (heapOf tops H₀ g.ds).get q = H₀.get q
  has : ∀ q ∈ lw, q ∈ lw₀ ∨ nx₀ ≤ q ∨ ∃ o, H₀.get q = some o
  lt0 : ∀ id r o, ν₀ id = some (r, o) → r < nx₀ ∧ id < snx₀
theorem nsees_ok {m : Nat} {H : Hp} : ∀ {l : List (Nat × List Nat)}, (∀ i fo, (i, fo) ∈ l → m.testBit i = true ∨ seenIn H fo = false) → noneSees m H l = true
  | [], _ => rfl
  | (i, fo) :: r, h => by
    have ih := nsees_ok fun i' fo' hi => h i' fo' (List.mem_cons_of_mem _ hi)
    simp only [noneSees]
    cases hb : m.testBit i
    · have h2 := (h i fo (by simp)).resolve_left (by simp [hb])
      rw [h2]; exact ih
    · exact ih
theorem seenBy_ok {m : Nat} {fo : List Nat} : ∀ {l : List (Nat × Hp)}, (∀ i Hi, (i, Hi) ∈ l → m.testBit i = true ∨ seenIn Hi fo = false) → seenByNone m fo l = true
  | [], _ => rfl
  | (i, Hi) :: r, h => by
    have ih := seenBy_ok (fo := fo) fun i' fo' hi => h i' fo' (List.mem_cons_of_mem _ hi)
    simp only [seenByNone]
    cases hb : m.testBit i
    · have h2 := (h i Hi (by simp)).resolve_left (by simp [hb])
      rw [h2]; exact ih
    · exact ih
theorem seenIn_l : ∀ {fo : List Nat}, seenIn .l fo = false
  | [] => rfl
  | x :: l => by simp only [seenIn, Tr.get_l]; exact seenIn_l
theorem quiet_ok {m : Nat} {H : Hp} {fo : List Nat} {fl : List (Nat × List Nat)} {hl : List (Nat × Hp)} (h1 : ∀ i fo, (i, fo) ∈ fl → m.testBit i = true ∨ seenIn H fo = false) (h2 : fo ≠ [] → ∀ i Hi, (i, Hi) ∈ hl → m.testBit i = true ∨ seenIn Hi fo = false) : quietWith m H fo fl hl = true := by
  unfold quietWith
  rw [nsees_ok h1]
  cases fo with
  | nil => rfl
  | cons x l => exact seenBy_ok (h2 (by simp))
theorem allIn_of {H : Hp} {lo : Nat} : ∀ {l : List Nat}, (∀ id ∈ l, lo ≤ id ∨ ∃ o, H.get id = some o) → allIn H lo l = true
  | [], _ => rfl
  | x :: l, h => by
    simp only [allIn, allIn_of fun id hi => h id (List.mem_cons_of_mem _ hi), Bool.and_true, Bool.or_eq_true]
    rcases h x (by simp) with h | ⟨o, h⟩
    · exact .inl (by simpa using h)
    · exact .inr (by rw [h]; rfl)
theorem add_ds {k : Nat} {H : Hp} {fo : List Nat} {D : Del} {g : Log} : (Log.add k H fo D g).ds = if D = [] then g.ds else (k, D) :: g.ds := by
  obtain ⟨a, b, c⟩ := g; cases D <;> rfl
theorem add_hs {k : Nat} {H : Hp} {fo : List Nat} {D : Del} {g : Log} {i : Nat} {Hi : Hp} (h : (i, Hi) ∈ (Log.add k H fo D g).hs) : (i, Hi) ∈ g.hs ∨ (i = k ∧ H ≠ .l) := by
  obtain ⟨a, b, c⟩ := g
  cases H with
  | l => exact .inl h
  | n v x y =>
    rcases List.mem_cons.1 (show (i, Hi) ∈ (k, Tr.n v x y) :: b from h) with e | h
    · cases e; exact .inr ⟨rfl, by simp⟩
    · exact .inl h
theorem add_fs {k : Nat} {H : Hp} {fo : List Nat} {D : Del} {g : Log} {i : Nat} {f : List Nat} (h : (i, f) ∈ (Log.add k H fo D g).fs) : (i, f) ∈ g.fs ∨ (i = k ∧ fo ≠ []) := by
  obtain ⟨a, b, c⟩ := g
  cases fo with
  | nil => exact .inl h
  | cons x y =>
    rcases List.mem_cons.1 (show (i, f) ∈ (k, x :: y) :: c from h) with e | h
    · cases e; exact .inr ⟨rfl, by simp⟩
    · exact .inl h
theorem heap_add {k : Nat} {H H₀ : Hp} {fo : List Nat} {D : Del} {g : Log} : heapOf tops H₀ (Log.add k H fo D g).ds = applyD (heapOf tops H₀ g.ds) D := by
  rw [add_ds]
  cases D with
  | nil => rfl
  | cons x l => rw [if_neg (by simp), heapOf_cons, if_pos rfl]
theorem below_eq (n : Nat) : ∀ l : List Nat, below n l = l.filter (· < n)
  | [] => rfl
  | x :: l => by
    have ih := below_eq n l
    simp only [below]
    by_cases h : x < n
    · have : Nat.blt x n = true := by simpa using h
      simp only [this, cond_true, ih]
      rw [List.filter_cons_of_pos (by simpa using h)]
      generalize l.filter (· < n) = u
      cases u <;> rfl
    · have : Nat.blt x n = false := by rw [← Bool.not_eq_true]; simpa using h
      simp only [this, cond_false, ih]
      rw [List.filter_cons_of_neg (by simpa using h)]

theorem add_hs' {k : Nat} {H : Hp} {fo : List Nat} {D : Del} {g : Log} {i : Nat} {Hi : Hp} (h : (i, Hi) ∈ (Log.add k H fo D g).hs) : (i, Hi) ∈ g.hs ∨ Hi = H := by
  obtain ⟨a, b, c⟩ := g
  cases H with
  | l => exact .inl h
  | n v x y =>
    rcases List.mem_cons.1 (show (i, Hi) ∈ (k, Tr.n v x y) :: b from h) with e | h
    · cases e; exact .inr rfl
    · exact .inl h
theorem add_fs' {k : Nat} {H : Hp} {fo : List Nat} {D : Del} {g : Log} {i : Nat} {f : List Nat} (h : (i, f) ∈ (Log.add k H fo D g).fs) : (i, f) ∈ g.fs ∨ f = fo := by
  obtain ⟨a, b, c⟩ := g
  cases fo with
  | nil => exact .inl h
  | cons x y =>
    rcases List.mem_cons.1 (show (i, f) ∈ (k, x :: y) :: c from h) with e | h
    · cases e; exact .inr rfl
    · exact .inl h
theorem half_add {ν₀ : Nm} {snx₀ nx₀ : Nat} {H₀ : Hp} {W : Nat → Prop} {lw₀ wr₀ : List Nat} {wr lw : List Nat} {es : List DE} {g : Log} (hh : Half W ν₀ snx₀ nx₀ H₀ lw₀ wr₀ ν M snx nx wr lw es g)
    {ν' : Nm} {M' : SH (stdA fs ov)} {snx' mx' k : Nat} {wr' lw' fo : List Nat} {D : Del} {Hs : Hp} {es' : List DE}
    (hlo : Lo snx ν ν') (hnw : ∀ id q o, snx ≤ id → ν' id = some (q, o) → nx ≤ q) (hup : nx ≤ mx') (hsup : snx ≤ snx')
    (htop : HS ν' M' snx' (applyD (heapOf tops H₀ g.ds) D) mx') (hwr : ∀ q ∈ lw', ∃ id ∈ wr', ∃ o, ν id = some (q, o)) (hhas : ∀ q ∈ lw', nx ≤ q ∨ ∃ o, (heapOf tops H₀ g.ds).get q = some o)
    (hD : ∀ x ∈ D, x.1 ∈ lw' ∨ nx ≤ x.1) (hes : ∀ e ∈ es, e ∈ es')
    (h1' : D ≠ [] → ∃ e ∈ es', e.k = k ∧ EOK ν' snx' mx' e D) (h2' : Hs ≠ .l → ∃ e ∈ es', e.k = k ∧ LOK ν' e.lk Hs) (h3' : fo ≠ [] → ∃ e ∈ es', e.k = k ∧ ∀ q ∈ fo, WOK ν' e.wr q) :
    Half W ν₀ snx₀ nx₀ H₀ lw₀ wr₀ ν' M' snx' mx' (addW wr' wr) (addW lw' lw) es' (Log.add k Hs fo D g) := by
  have hle : NLe ν ν' := hh.top.le hlo
  refine ⟨?_, fun i D' hi => ?_, fun i Hi hi => ?_, fun i f hi => ?_, fun id hid => ?_, fun id q o h1 h2 => ?_, Nat.le_trans hh.up hup, Nat.le_trans hh.sup hsup, fun q hq => ?_, fun q hq => mem_addW.2 (.inr (hh.mono q hq)), fun q hq hn => ?_, fun id hid => mem_addW.2 (.inr (hh.swr id hid)), fun q hq hn => ?_, fun q hq => ?_, hh.lt0⟩
  · rw [heap_add]; exact htop
  · have old : (i, D') ∈ g.ds → ∃ e ∈ es', e.k = i ∧ EOK ν' snx' mx' e D' := fun hi => by
      obtain ⟨e, a, b, c⟩ := hh.ent i D' hi
      exact ⟨e, hes e a, b, c.mono hle hlo hnw hsup hup⟩
    rw [add_ds] at hi
    split at hi
    · exact old hi
    · rename_i hne
      rcases List.mem_cons.1 hi with e | hi
      · cases e
        exact h1' hne
      · exact old hi
  · rcases add_hs hi with h | ⟨rfl, h⟩
    · obtain ⟨e, a, b, c⟩ := hh.hsb i Hi h
      exact ⟨e, hes e a, b, c.mono hle⟩
    · rcases add_hs' hi with h' | h'
      · obtain ⟨e, a, b, c⟩ := hh.hsb i Hi h'
        exact ⟨e, hes e a, b, c.mono hle⟩
      · rw [h']; exact h2' h
  · rcases add_fs hi with h | ⟨rfl, h⟩
    · obtain ⟨e, a, b, c⟩ := hh.fsb i f h
      exact ⟨e, hes e a, b, fun q hq => (c q hq).mono hle⟩
    · rcases add_fs' hi with h' | h'
      · obtain ⟨e, a, b, c⟩ := hh.fsb i f h'
        exact ⟨e, hes e a, b, fun q hq => (c q hq).mono hle⟩
      · rw [h']; exact h3' h
  · rw [hlo id (Nat.lt_of_lt_of_le hid hh.sup), hh.lo id hid]
  · by_cases hlt : id < snx
    · rw [hlo id hlt] at h2; exact hh.nw id q o h1 h2
    · exact Nat.le_trans hh.up (hnw id q o (by omega) h2)
  · rcases mem_addW.1 hq with h | h
    · obtain ⟨id, h1, o, h2⟩ := hwr q h
      exact .inr ⟨id, mem_addW.2 (.inl h1), o, hle _ _ h2⟩
    · rcases hh.wrs q h with hW | ⟨id, h1, o, h2⟩
      · exact .inl hW
      · exact .inr ⟨id, mem_addW.2 (.inr h1), o, hle _ _ h2⟩
  · rw [heap_add, applyD_ne fun x hx e => ?_]
    · exact hh.keep q hq fun h => hn (mem_addW.2 (.inr h))
    · rcases hD x hx with h | h
      · rw [e] at h; exact hn (mem_addW.2 (.inl h))
      · have := hh.up; omega
  · rw [heap_add, applyD_ne fun x hx e => ?_]
    · refine hh.keepS q hq fun id hid o he => hn id (mem_addW.2 (.inr hid)) o (hle _ _ he)
    · rcases hD x hx with h | h
      · rw [e] at h
        obtain ⟨id, h1, o, h2⟩ := hwr q h
        exact hn id (mem_addW.2 (.inl h1)) o (hle _ _ h2)
      · have := hh.up; omega
  · rcases mem_addW.1 hq with h | h
    · rcases hhas q h with h1 | ⟨o, h1⟩
      · exact .inr (.inl (Nat.le_trans hh.up h1))
      · by_cases hlt : nx₀ ≤ q
        · exact .inr (.inl hlt)
        · by_cases hw : q ∈ lw
          · exact hh.has q hw
          · exact .inr (.inr ⟨o, by rw [← hh.keep q (by omega) hw]; exact h1⟩)
    · exact hh.has q h

/-! ### Operations by what they look at -/
theorem sBuiltin_val {b : Builtin} {ts : List TypeId} {args : List (SV (stdA fs ov))} {la : List LV} {K : KS (stdA fs ov)} (hna : b ≠ .append) (h : sBuiltin P b ts args M snx K) (ha : VSL ν args la) :
    ∃ v lv, (∀ H, evBuiltin P b ts la H nx = some ⟨lv, H, nx, []⟩) ∧ VS ν v lv ∧ K v M snx [] := by
  unfold sBuiltin at h
  split at h
  · rename_i t x
    obtain ⟨lx, r, rfl, hx, hr⟩ := ha
    obtain rfl := hr
    split at h
    · rename_i e hu
      obtain rfl := hx
      exact ⟨.i .i64 (0 : Int), .i .i64 0, fun H => by simp only [evBuiltin, hu], rfl, h⟩
    · rename_i e id off len cap hu
      obtain ⟨r, hr, rfl⟩ := hx
      exact ⟨.i .i64 (len : Int), .i .i64 (.ofNat len), fun H => by simp only [evBuiltin, hu], rfl, h⟩
    · rename_i e own id n hu
      obtain ⟨hn, ⟨rfl, h3⟩ | ⟨r, o, hr, ⟨rfl, rfl⟩ | ⟨_, c, hc, rfl⟩⟩⟩ := hx
      · have h3 : n = (0 : Int) := h3
        subst h3
        exact ⟨.i .i64 (0 : Int), .i .i64 0, fun H => by simp only [evBuiltin, hu], rfl, h⟩
      · exact ⟨.i .i64 n, .i .i64 (.ofNat (Int.toNat n)), fun H => by simp only [evBuiltin, hu], by show LV.i _ _ = LV.i _ _; rw [show Int.ofNat (Int.toNat n) = n from Int.toNat_of_nonneg hn], h⟩
      · exact ⟨.i .i64 n, .i .i64 (.ofNat (Int.toNat n)), fun H => by simp only [evBuiltin, hu], by show LV.i _ _ = LV.i _ _; rw [show Int.ofNat (Int.toNat n) = n from Int.toNat_of_nonneg hn], h⟩
    · rename_i n e hu
      exact ⟨.i .i64 (n : Int), .i .i64 (.ofNat n), fun H => by simp only [evBuiltin, hu], rfl, h⟩
    · exact h.elim
  · rename_i k x l
    obtain ⟨lx, r, rfl, hx, hr⟩ := ha
    obtain rfl := hx
    obtain ⟨v, h1, h2⟩ := opt_ok h
    obtain ⟨lv, h3, h4⟩ := foldS_ok h1 hr
    exact ⟨v, lv, fun H => by simp only [evBuiltin, h3], h4, h2⟩
  · rename_i k x l
    obtain ⟨lx, r, rfl, hx, hr⟩ := ha
    obtain rfl := hx
    obtain ⟨v, h1, h2⟩ := opt_ok h
    obtain ⟨lv, h3, h4⟩ := foldS_ok h1 hr
    exact ⟨v, lv, fun H => by simp only [evBuiltin, h3], h4, h2⟩
  · exact absurd rfl hna
  · exact h.elim
/-- An operation that looks at no memory: a value, or a new block. -/
theorem sOp_none {cs : CallS (stdA fs ov)} {call : CallT} (hF : FS ν T L) {op : Op} {K : KS (stdA fs ov)} (hk : looks T op = none) (h : sOp P cs T M snx op K) :
    (∃ v lv, (∀ H, evOp P call L H nx op = some ⟨⟨lv, H, nx, []⟩, nx⟩) ∧ VS ν v lv ∧ K v M snx []) ∨
    (∃ so lo v lv f, (∀ H, evOp P call L H nx op = res (fresh H nx lo f [])) ∧ f nx = lv ∧ sFresh M snx so v [] K ∧ (∀ ν', NLe ν ν' → ν' snx = some (nx, 0) → ∀ H' : Hp, H'.get nx = some lo → OS ν' H' snx so) ∧ (∀ ν' : Nm, ν' snx = some (nx, 0) → VS ν' v lv)) := by
  have pure : ∀ {op : Op}, sPure P T op (fun v => K v M snx []) → (∀ H, evOp P call L H nx op = res (evPureO P L H nx op)) → (∃ v lv, (∀ H, evOp P call L H nx op = some ⟨⟨lv, H, nx, []⟩, nx⟩) ∧ VS ν v lv ∧ K v M snx []) := fun {op} hp he => by
    obtain ⟨v, lv, h1, h2, h3⟩ := sPure_ok hF hp
    exact ⟨v, lv, fun H => by rw [he]; simp only [evPureO, h1, res], h2, h3⟩
  cases op
  case load t x => simp only [looks] at hk; split at hk <;> cases hk
  case store t x y => (simp only [looks] at hk; split at hk <;> cases hk)
  case alloc t =>
    simp only [sOp] at h
    split at h
    · rename_i z hz
      obtain ⟨lz, h1, h2⟩ := sZero_ok (ν := ν) hz
      exact .inr ⟨_, .row t lz.cells, .p snx 0, .p nx 0, fun id => .p id 0, fun H => by simp only [evOp, evAlloc, h1], rfl, h, fun ν' hle hn H' hH => ⟨nx, lz.cells, hn, hH, h2.cells.mono hle⟩, fun ν' hn => ⟨nx, hn, rfl⟩⟩
    · exact h.elim
  case box t x =>
    simp only [sOp] at h
    split at h
    · rename_i z hz
      obtain ⟨lz, h1, h2⟩ := sO_ok hF hz
      exact .inr ⟨_, .row t lz.cells, .p snx 0, .p nx 0, fun id => .p id 0, fun H => by simp only [evOp, evBox, h1], rfl, h, fun ν' hle hn H' hH => ⟨nx, lz.cells, hn, hH, h2.cells.mono hle⟩, fun ν' hn => ⟨nx, hn, rfl⟩⟩
    · exact h.elim
  case buildSlice t len ps =>
    simp only [sOp] at h
    unfold sBuildSl at h
    split at h
    · rename_i e hu
      split at h
      · rename_i z n l hz hs hl
        obtain ⟨lz, h1, h2⟩ := sZero_ok (ν := ν) hz
        obtain ⟨ll, h3, h4⟩ := sPartsO_ok hF hl
        rw [← h2.cells.length] at h
        cases hc : (Nat.beq lz.cells.length n && Nat.blt 0 n && Nat.ble (len * n) 16777216)
        · simp only [hc, cond_false] at h <;> exact h.elim
        · simp only [hc, cond_true] at h
          cases hf : sFill (fun i => some (i * n, n)) (sRep len z.cells) l with
          | none => simp only [hf] at h <;> exact h.elim
          | some cs =>
            simp only [hf] at h
            obtain ⟨lr, h5, h6⟩ := sFill_ok hf h4 (sRep_ok h2.cells len)
            exact .inr ⟨_, .row e lr, .sl snx 0 len len, .sl nx 0 len len, fun id => .sl id 0 len len, fun H => by simp only [evOp, evBuildSl, hu, h1, hs, h3, hc, cond_true, h5], rfl, h, fun ν' hle hn H' hH => ⟨nx, lr, hn, hH, h6.mono hle⟩, fun ν' hn => ⟨nx, hn, rfl⟩⟩
      · exact h.elim
    · exact h.elim
  case call c =>
    obtain ⟨callee, args, ts⟩ := c
    simp only [sOp, sCallee] at h
    cases callee with
    | value f => cases hk
    | invoke x m => exact h.elim
    | builtin b =>
      simp only at h
      split at h
      · rename_i av ha
        obtain ⟨la, h1, h2⟩ := sOs_ok hF ha
        obtain ⟨v, lv, h3, h4, h5⟩ := sBuiltin_val (nx := nx) (fun e => by subst e; cases hk) h h2
        exact .inl ⟨v, lv, fun H => by simp only [evOp, evCallee, h1, h3, res], h4, h5⟩
      · exact h.elim
  case makeSlice t l c => exact absurd h (by simp [sOp, sPure])
  all_goals exact .inl (pure h fun H => rfl)
end Go.Rx

set_option linter.unusedSimpArgs false
set_option linter.unusedVariables false
set_option linter.unusedSectionVars false
namespace Go.Rx
open Go
variable {fs : Fs} {ov : Bool} {ν : Nm} {P : Program} {T : Al (SV (stdA fs ov))} {L : Tr LV} {M : SH (stdA fs ov)} {H : Hp} {snx nx : Nat}

theorem got_one {H : Hp} {r : Nat} {lo : LO} (h : H.get r = some lo) : (one H r).get r = some lo := by
  unfold one; rw [h]; exact Tr.get_set_same _ _ _
theorem delta_one {H : Hp} {r : Nat} {fo : List Nat} : delta H (ap' fo (rng r 0)) = delta H fo := by rw [ap'_eq]; simp [rng]
theorem delta_keys {H : Hp} : ∀ {l : List Nat} {x : Nat × Option LO}, x ∈ delta H l → x.1 ∈ l
  | [], x, h => by simp [delta] at h
  | y :: l, x, h => by
    rw [delta_cons] at h
    rcases List.mem_cons.1 h with rfl | h
    · simp
    · exact List.mem_cons_of_mem _ (delta_keys h)
theorem delta_nil {H : Hp} {l : List Nat} (h : l = []) : delta H l = [] := by subst h; rfl
theorem delta_ne {H : Hp} {l : List Nat} (h : delta H l ≠ []) : l ≠ [] := fun e => h (delta_nil e)
theorem scope_none {S : Nat → Bool} {ds : List (Nat × Del)} {op : Op} (hk : looks T op = none) : scopeOf L S H ds op = .l := by
  cases op
  case load t x => simp only [looks] at hk; split at hk <;> cases hk
  case store t x y => (simp only [looks] at hk; split at hk <;> cases hk)
  case call c =>
    obtain ⟨callee, args, ts⟩ := c
    cases callee with
    | value f => cases hk
    | invoke x m => rfl
    | builtin b => cases b <;> first | rfl | cases hk
  all_goals rfl
/-- One operation that is wanted. -/
theorem evDrawn_step {call : CallT} {ops : Array Oper} {ms : Tr Nat} {H₀ : Hp} {o : Oper} {rest : List Oper} {k N : Nat} {H₁ Hs : Hp} {df lw : List Nat} {mx m : Nat} {g : Log} {r : Res} {L' : Tr LV}
    (hw : want ops L o = some true) (hm : ms.get k = some m) (hs : scopeOf L m.testBit H₀ g.ds o.op = Hs) (he : evOp P call L Hs nx o.op = some r) (h1 : nx ≤ r.o.nx) (h2 : r.o.nx ≤ r.mx) (h3 : ∀ id ∈ r.o.wr, nx ≤ id ∨ ∃ o, Hs.get id = some o)
    (h4 : ∀ i fo, (i, fo) ∈ g.fs → m.testBit i = true ∨ seenIn Hs fo = false) (h5 : below nx r.o.wr ≠ [] → ∀ i Hi, (i, Hi) ∈ g.hs → m.testBit i = true ∨ seenIn Hi (below nx r.o.wr) = false) (hp : putT L N o.dst r.o.v = some L') :
    evDrawn P call ops ms H₀ (o :: rest) k ⟨L, N, H₁, nx, lw, df, mx⟩ g = evDrawn P call ops ms H₀ rest (k + 1) ⟨L', N, H₁, r.mx, addW r.o.wr lw, df, mx⟩ (Log.add k Hs (below nx r.o.wr) (delta r.o.H (ap' (below nx r.o.wr) (rng nx (r.o.nx - nx)))) g) := by
  obtain ⟨ds, hl, fl⟩ := g
  obtain ⟨⟨v, H', nx', wr'⟩, mx'⟩ := r
  simp only at hs he h1 h2 h3 h4 h5 hp
  have b1 : Nat.ble nx nx' = true := by simpa using h1
  have b2 : Nat.ble nx' mx' = true := by simpa using h2
  simp only [evDrawn, hw, hm, Tr.force_eq, hs, he, b1, b2, allIn_of h3, quiet_ok h4 h5, Bool.and_true, cond_true, hp, nN_eq]
  rfl
theorem seenIn_of {H : Hp} : ∀ {fo : List Nat}, (∀ q ∈ fo, H.get q = none) → seenIn H fo = false
  | [], _ => rfl
  | x :: l, h => by simp only [seenIn, h x (by simp)]; exact seenIn_of fun q hq => h q (by simp [hq])
theorem one_get {H : Hp} {r q : Nat} {lo : LO} (h : (one H r).get q = some lo) : q = r := by
  unfold one at h
  split at h
  · rw [Tr.get_set] at h
    split at h
    · assumption
    · simp [Tr.get_l] at h
  · simp [Tr.get_l] at h
theorem one_none {H : Hp} {r q : Nat} (h : q ≠ r) : (one H r).get q = none := by
  cases e : (one H r).get q with
  | none => rfl
  | some lo => exact absurd (one_get e) h
theorem heap_sub' {S : Nat → Bool} : ∀ {ds : List (Nat × Del)}, (∀ i D, (i, D) ∈ ds → S i = true ∨ D = []) → heapOf S H ds = heapOf tops H ds
  | [], _ => rfl
  | (k, D) :: ds, h => by
    have ih := heap_sub' fun i D' hi => h i D' (List.mem_cons_of_mem _ hi)
    rw [heapOf_cons, heapOf_cons, if_pos (show tops k = true from rfl)]
    rcases h k D (by simp) with h1 | h1
    · rw [if_pos h1, ih]
    · subst h1
      split
      · rw [ih]
      · exact ih
theorem here_ok {j : Nat} (h : SH.here M j = true) : ∃ so, M.get j = some so := by
  unfold SH.here at h
  cases e : M.get j with
  | none => rw [e] at h; cases h
  | some so => exact ⟨so, rfl⟩
theorem ours_ok {j : Nat} (h : SH.ours M j = true) : ∃ so, M.get j = some so ∧ so.mine = true := by
  unfold SH.ours at h
  cases e : M.get j with
  | none => rw [e] at h; cases h
  | some so => rw [e] at h; exact ⟨so, rfl, h⟩
theorem out_ok {id lo hi : Nat} (h : (Nat.blt id lo || Nat.ble hi id) = true) : id < lo ∨ hi ≤ id := by
  rw [Bool.or_eq_true] at h
  exact h.imp (fun h => by simpa using h) (fun h => by simpa using h)
theorem sees_one {m id : Nat} : ∀ {es : List DE}, seesOne M m id es = true → ∀ e ∈ es, m.testBit e.k = true ∨ ((id < e.lo ∨ e.hi ≤ id) ∧ e.wr ≠ some none ∧ ∀ j, e.wr = some (some j) → j ≠ id ∧ ∃ so, M.get j = some so ∧ so.mine = true)
  | [], _, e, he => by cases he
  | ⟨k, lk, wr, lo, hi⟩ :: r, h, e, he => by
    simp only [seesOne] at h
    cases hb : Nat.testBit m k with
    | true =>
      rw [hb] at h
      rcases List.mem_cons.1 he with rfl | he
      · exact .inl hb
      · exact sees_one h e he
    | false =>
      rw [hb] at h
      cases wr with
      | none =>
        simp only [Bool.and_eq_true] at h
        rcases List.mem_cons.1 he with rfl | he
        · exact .inr ⟨out_ok h.1, by simp, fun j hj => by cases hj⟩
        · exact sees_one h.2 e he
      | some w =>
        cases w with
        | none => cases h
        | some j =>
          simp only [Bool.and_eq_true] at h
          obtain ⟨⟨h1, h2⟩, h3⟩ := h
          rcases List.mem_cons.1 he with rfl | he
          · refine .inr ⟨out_ok h2, by simp, fun j' hj => ?_⟩
            cases hj
            cases hj : Nat.beq j id with
            | true => rw [hj] at h1; cases h1
            | false => rw [hj] at h1; exact ⟨(beq_false _ _).1 hj, ours_ok h1⟩
          · exact sees_one h3 e he
theorem sees_all {m : Nat} : ∀ {es : List DE}, seesAll m es = true → ∀ e ∈ es, m.testBit e.k = true ∨ (e.wr = none ∧ e.lo = e.hi)
  | [], _, e, he => by cases he
  | ⟨k, lk, wr, lo, hi⟩ :: r, h, e, he => by
    simp only [seesAll] at h
    cases hb : Nat.testBit m k with
    | true =>
      rw [hb] at h
      rcases List.mem_cons.1 he with rfl | he
      · exact .inl hb
      · exact sees_all h e he
    | false =>
      rw [hb] at h
      cases wr with
      | none =>
        simp only [Bool.and_eq_true] at h
        rcases List.mem_cons.1 he with rfl | he
        · exact .inr ⟨rfl, (beq_iff _ _).1 h.1⟩
        · exact sees_all h.2 e he
      | some w => cases h
theorem may_write {m : Nat} {lk : Option (Option Nat)} : ∀ {es : List DE}, mayWrite M m lk es = true → ∀ e ∈ es, m.testBit e.k = true ∨ e.lk = none ∨ ∃ id j, lk = some (some id) ∧ e.lk = some (some j) ∧ j ≠ id ∧ ∃ so, M.get j = some so
  | [], _, e, he => by cases he
  | ⟨k, l, wr, lo, hi⟩ :: r, h, e, he => by
    simp only [mayWrite] at h
    cases hb : Nat.testBit m k with
    | true =>
      rw [hb] at h
      rcases List.mem_cons.1 he with rfl | he
      · exact .inl hb
      · exact may_write h e he
    | false =>
      rw [hb] at h
      cases l with
      | none =>
        rcases List.mem_cons.1 he with rfl | he
        · exact .inr (.inl rfl)
        · exact may_write h e he
      | some w =>
        cases w with
        | none => cases h
        | some j =>
          cases lk with
          | none => cases h
          | some x =>
            cases x with
            | none => cases h
            | some id =>
              simp only [Bool.and_eq_true] at h
              obtain ⟨h1, h3⟩ := h
              rcases List.mem_cons.1 he with rfl | he
              · refine .inr (.inr ⟨id, j, rfl, rfl, ?_⟩)
                cases hj : Nat.beq j id with
                | true => rw [hj] at h1; cases h1
                | false => rw [hj] at h1; exact ⟨(beq_false _ _).1 hj, here_ok h1⟩
              · exact may_write h3 e he
theorem addE_old {k lo hi : Nat} {lk w : Option (Option Nat)} {es : List DE} : ∀ e ∈ es, e ∈ addE k lk w lo hi es := fun e he => by
  unfold addE
  split
  · exact he
  · exact List.mem_cons_of_mem _ he
theorem addE_new {k lo hi : Nat} {lk w : Option (Option Nat)} {es : List DE} (h : lk ≠ none ∨ lo ≠ hi) : ⟨k, lk, w, lo, hi⟩ ∈ addE k lk w lo hi es := by
  unfold addE
  split
  · rename_i hb
    rcases h with h | h
    · exact absurd rfl h
    · exact absurd ((beq_iff _ _).1 hb) h
  · exact List.mem_cons_self ..
section
variable {ν₀ : Nm} {snx₀ nx₀ : Nat} {H₀ : Hp} {lw₀ wr₀ wr lw : List Nat} {W : Nat → Prop} {es : List DE} {g : Log} {m : Nat}
theorem half_old (hh : Half W ν₀ snx₀ nx₀ H₀ lw₀ wr₀ ν M snx nx wr lw es g) {id r o : Nat} {so : SO (stdA fs ov)} (hg : M.get id = some so) (hr : ν id = some (r, o)) (h : seesOne M m id es = true) : (heapOf m.testBit H₀ g.ds).get r = (heapOf tops H₀ g.ds).get r :=
  heap_old fun i D hi => by
    obtain ⟨e, he, rfl, a, b, c1, c2, c3, c4, c5⟩ := hh.ent i D hi
    rcases sees_one h e he with hm | ⟨h1, h2, h3⟩
    · exact .inl hm
    · refine .inr fun x hx er => ?_
      rcases c5 x hx with ⟨p, q⟩ | w
      · have := c4 id r o hr (by omega) (by omega); omega
      · rcases w with w | ⟨j, o', w, hj⟩
        · exact h2 w
        · obtain ⟨k1, so', k2, k3⟩ := h3 j w
          subst er
          exact k1 (hh.top.inj j id x.1 o' o so' so k2 k3 hg hj hr)
theorem half_all (hh : Half W ν₀ snx₀ nx₀ H₀ lw₀ wr₀ ν M snx nx wr lw es g) (h : seesAll m es = true) : heapOf m.testBit H₀ g.ds = heapOf tops H₀ g.ds :=
  heap_sub' fun i D hi => by
    obtain ⟨e, he, rfl, a, b, c1, c2, c3, c4, c5⟩ := hh.ent i D hi
    rcases sees_all h e he with hm | ⟨h1, h2⟩
    · exact .inl hm
    · refine .inr ?_
      cases D with
      | nil => rfl
      | cons x l =>
        have := c3 h2
        rcases c5 x (by simp) with ⟨p, q⟩ | w
        · omega
        · rcases w with w | ⟨j, o', w, hj⟩ <;> rw [h1] at w <;> cases w
theorem half_fs (hh : Half W ν₀ snx₀ nx₀ H₀ lw₀ wr₀ ν M snx nx wr lw es g) {id r o : Nat} {so : SO (stdA fs ov)} (hg : M.get id = some so) (hr : ν id = some (r, o)) (h : seesOne M m id es = true) {H : Hp} {i : Nat} {fo : List Nat} (hi : (i, fo) ∈ g.fs) : m.testBit i = true ∨ seenIn (one H r) fo = false := by
  obtain ⟨e, he, rfl, hw⟩ := hh.fsb i fo hi
  rcases sees_one h e he with hm | ⟨h1, h2, h3⟩
  · exact .inl hm
  · refine .inr (seenIn_of fun q hq => one_none fun er => ?_)
    rcases hw q hq with w | ⟨j, o', w, hj⟩
    · exact h2 w
    · obtain ⟨k1, so', k2, k3⟩ := h3 j w
      subst er
      exact k1 (hh.top.inj j id q o' o so' so k2 k3 hg hj hr)
theorem half_fs_all (hh : Half W ν₀ snx₀ nx₀ H₀ lw₀ wr₀ ν M snx nx wr lw es g) (h : seesAll m es = true) {H : Hp} {i : Nat} {fo : List Nat} (hi : (i, fo) ∈ g.fs) : m.testBit i = true ∨ seenIn H fo = false := by
  obtain ⟨e, he, rfl, hw⟩ := hh.fsb i fo hi
  rcases sees_all h e he with hm | ⟨h1, h2⟩
  · exact .inl hm
  · refine .inr (seenIn_of fun q hq => ?_)
    rcases hw q hq with w | ⟨j, o', w, hj⟩ <;> rw [h1] at w <;> cases w
theorem half_hs (hh : Half W ν₀ snx₀ nx₀ H₀ lw₀ wr₀ ν M snx nx wr lw es g) {lk : Option (Option Nat)} (h : mayWrite M m lk es = true) {fo : List Nat} (hfo : lk = some none ∨ ∃ id r so, lk = some (some id) ∧ M.get id = some so ∧ so.mine = true ∧ ν id = some (r, 0) ∧ ∀ q ∈ fo, q = r) {i : Nat} {Hi : Hp} (hi : (i, Hi) ∈ g.hs) : m.testBit i = true ∨ seenIn Hi fo = false := by
  obtain ⟨e, he, rfl, hw⟩ := hh.hsb i Hi hi
  rcases may_write h e he with hm | hn | ⟨id, j, h1, h2, h3, so', h4⟩
  · exact .inl hm
  · rcases hw with w | ⟨j, w, _⟩ <;> rw [hn] at w <;> cases w
  · refine .inr (seenIn_of fun q hq => ?_)
    rcases hfo with hfo | ⟨id', r, so, hl, hg, hm, hr, hfo⟩
    · rw [hfo] at h1; cases h1
    · rw [hl] at h1; cases h1
      obtain rfl := hfo q hq
      cases e1 : Hi.get q with
      | none => rfl
      | some lo =>
        exfalso
        rcases hw with w | ⟨j', w, w2⟩
        · rw [h2] at w; cases w
        · rw [h2] at w; cases w
          obtain ⟨o', w3⟩ := w2 q lo e1
          exact h3 (hh.top.inj id j q 0 o' so so' hg hm h4 hr w3).symm
end
theorem sDrawn_ok {cs : CallS (stdA fs ov)} {call : CallT} (hc : CallSOK cs call) {ops : Array Oper} {ms : Tr Nat} {ν₀ : Nm} {snx₀ nx₀ : Nat} {H₀ H₁ : Hp} {W : Nat → Prop} {lw₀ wr₀ df : List Nat} {mx : Nat} {N : Nat} :
    ∀ {l : List Oper} {k : Nat} {es : List DE} {T : Al (SV (stdA fs ov))} {M : SH (stdA fs ov)} {snx : Nat} {wr : List Nat} {ν : Nm} {L : Tr LV} {nx : Nat} {lw : List Nat} {g : Log} {K : SS (stdA fs ov) → Prop}, sDrawn P cs ops ms l k es ⟨T, N, M, snx, wr⟩ K →
      FS ν T L → Half W ν₀ snx₀ nx₀ H₀ lw₀ wr₀ ν M snx nx wr lw es g → ∃ L' nx' lw' g' ν' s' es', evDrawn P call ops ms H₀ l k ⟨L, N, H₁, nx, lw, df, mx⟩ g = some (⟨L', N, H₁, nx', lw', df, mx⟩, g') ∧ FS ν' s'.T L' ∧ Half W ν₀ snx₀ nx₀ H₀ lw₀ wr₀ ν' s'.H s'.nx nx' s'.wr lw' es' g' ∧ s'.N = N ∧ K s'
  | [], k, es, T, M, snx, wr, ν, L, nx, lw, g, K, h, hF, hh => ⟨L, nx, lw, g, ν, _, es, rfl, hF, hh, rfl, h⟩
  | o :: rest, k, es, T, M, snx, wr, ν, L, nx, lw, g, K, h, hF, hh => by
    simp only [sDrawn] at h
    rcases sWant_ok hF h with ⟨T', hw, hF, h⟩ | ⟨T', hw, hF, h⟩
    · cases hm : ms.get k with
      | none => simp only [hm] at h <;> exact h.elim
      | some m =>
        simp only [hm] at h
        cases hgo : mayGo M m es (looks T' o.op) with
        | false => simp only [hgo, cond_false] at h <;> exact h.elim
        | true =>
          simp only [hgo, cond_true] at h
          cases hk : looks T' o.op with
          | none =>
            simp only [hk] at h
            have hsc : scopeOf L m.testBit H₀ g.ds o.op = .l := scope_none hk
            rcases sOp_none (nx := nx) (call := call) hF hk h with ⟨v, lv, he, hv, h⟩ | ⟨so, lo, v, lv, f, he, hf, h, hO, hv⟩
            · obtain ⟨T2, L2, hp, hF2, h⟩ := sPut_ok hF h hv
              have hh' := half_add (k := k) (wr' := []) (lw' := []) (fo := []) (D := []) (Hs := .l) (es' := addE k none none snx snx es) hh (fun _ _ => rfl) (fun id q o h1 h2 => by have := (hh.top.lt id q o h2).2; omega) (Nat.le_refl nx) (Nat.le_refl snx) hh.top (by simp) (by simp) (by simp) addE_old (by simp) (by simp) (by simp)
              obtain ⟨L', nx', lw', g', ν', s', es', e, r1⟩ := sDrawn_ok hc h hF2 hh'
              refine ⟨L', nx', lw', g', ν', s', es', ?_, r1⟩
              rw [evDrawn_step hw hm hsc (he .l) (Nat.le_refl _) (Nat.le_refl _) (by simp) (fun i fo _ => .inr seenIn_l) (by simp [below]) hp]
              have e0 : delta (.l : Hp) (ap' (below nx []) (rng nx (nx - nx))) = [] := delta_nil (by simp [below, ap', rng])
              rw [e0]
              exact e
            · simp only [sFresh, Al.force_eq] at h
              obtain ⟨h1, hle⟩ := hs_new hh.top hO
              have hF' : FS (updN ν snx (some (nx, 0))) T' L := ⟨fun t u hu => let ⟨lv, a, b⟩ := hF.at_ t u hu; ⟨lv, a, b.mono hle⟩⟩
              obtain ⟨T2, L2, hp, hF2, h⟩ := sPut_ok hF' h (hv _ updN_same)
              have hlo : Lo snx ν (updN ν snx (some (nx, 0))) := fun id hid => updN_ne (by omega)
              have hh' := half_add (k := k) (wr' := []) (lw' := []) (fo := []) (D := [(nx, some lo)]) (Hs := .l) (ν' := updN ν snx (some (nx, 0))) (M' := M.set snx (some so)) (snx' := snx + 1) (mx' := nx + 1) (es' := addE k none none snx (snx + 1) es) hh hlo (fun id q o h1 h2 => by
                  by_cases e : id = snx
                  · subst e; rw [updN_same] at h2; cases h2; exact Nat.le_refl _
                  · rw [updN_ne e] at h2; have := (hh.top.lt _ _ _ h2).2; omega) (by omega) (by omega) (by rw [applyD_cons]; exact h1) (by simp) (by simp) (by simp) addE_old
                (fun _ => ⟨_, addE_new (.inr (by omega)), rfl, nx, nx + 1, Nat.le_refl _, Nat.le_refl _, fun e => by dsimp only at e; omega, fun id r o h1 h2 h3 => by
                  by_cases e : id = snx
                  · subst e; exact ⟨Nat.le_refl _, by show id < id + 1; omega⟩
                  · rw [updN_ne e] at h1; have := (hh.top.lt _ _ _ h1).1; omega, fun x hx => by
                  simp only [List.mem_singleton] at hx; subst hx; exact .inl ⟨Nat.le_refl _, Nat.lt_succ_self _⟩⟩) (by simp) (by simp)
              obtain ⟨L', nx', lw', g', ν', s', es', e, r1⟩ := sDrawn_ok hc h hF2 hh'
              refine ⟨L', nx', lw', g', ν', s', es', ?_, r1⟩
              have hev : evOp P call L .l nx o.op = some ⟨⟨lv, Tr.set .l nx (some lo), nx + 1, []⟩, nx + 1⟩ := by rw [he, fresh_eq, hf]; rfl
              rw [evDrawn_step hw hm hsc hev (by show nx ≤ nx + 1; omega) (Nat.le_refl _) (by simp) (fun i fo _ => .inr seenIn_l) (by simp [below]) hp]
              have e0 : delta (Tr.set (.l : Hp) nx (some lo)) (ap' (below nx []) (rng nx (nx + 1 - nx))) = [(nx, some lo)] := by
                have : ap' (below nx []) (rng nx (nx + 1 - nx)) = [nx] := by rw [show nx + 1 - nx = 1 by omega]; simp [below, ap', rng, nN_eq]
                rw [this, delta_cons, Tr.get_set_same]; rfl
              rw [e0]
              exact e
          | some lk =>
            rw [hk] at hgo
            simp only [hk] at h
            -- what is common to stores and calls
            have common : ∀ {Hs : Hp} {r : Res} {ν' : Nm} {v : SV (stdA fs ov)} {M' : SH (stdA fs ov)} {snx' : Nat} {wr' : List Nat}, scopeOf L m.testBit H₀ g.ds o.op = Hs → evOp P call L Hs nx o.op = some r → r.o.nx ≤ r.mx → nx ≤ r.o.nx → snx ≤ snx' → Lo snx ν ν' → (∀ id q o, snx ≤ id → ν' id = some (q, o) → nx ≤ q) → VS ν' v r.o.v →
                HS ν' M' snx' (applyD (heapOf tops H₀ g.ds) (delta r.o.H (ap' (below nx r.o.wr) (rng nx (r.o.nx - nx))))) r.mx → (∀ q ∈ r.o.wr, ∃ id ∈ wr', ∃ o, ν id = some (q, o)) → (∀ q ∈ r.o.wr, nx ≤ q ∨ ∃ o, Hs.get q = some o) → (∀ q o, Hs.get q = some o → (heapOf tops H₀ g.ds).get q = some o) → (r.o.nx ≠ nx → snx' ≠ snx) →
                (∀ {i fo}, (i, fo) ∈ g.fs → m.testBit i = true ∨ seenIn Hs fo = false) → LOK ν (some lk) Hs → (∀ q ∈ r.o.wr, WOK ν (some lk) q) → (wr' ≠ [] → lk = none ∨ ∃ id r' so, some lk = some (some id) ∧ M.get id = some so ∧ so.mine = true ∧ ν id = some (r', 0) ∧ ∀ q ∈ below nx r.o.wr, q = r') →
                (sPut T' N o.dst v fun T => (match wr' with
                  | [] => sDrawn P cs ops ms rest (k + 1) (addE k (some lk) none snx snx' es) ⟨T, N, M', snx', wr⟩ K
                  | x :: l => bif mayWrite M m (some lk) es then sDrawn P cs ops ms rest (k + 1) (addE k (some lk) (some lk) snx snx' es) ⟨T, N, M', snx', addW (x :: l) wr⟩ K else False)) →
                ∃ L' nx' lw' g' ν' s' es', evDrawn P call ops ms H₀ (o :: rest) k ⟨L, N, H₁, nx, lw, df, mx⟩ g = some (⟨L', N, H₁, nx', lw', df, mx⟩, g') ∧ FS ν' s'.T L' ∧ Half W ν₀ snx₀ nx₀ H₀ lw₀ wr₀ ν' s'.H s'.nx nx' s'.wr lw' es' g' ∧ s'.N = N ∧ K s' := by
              intro Hs r ν' v M' snx' wr' hsc hev hmx hup hsup hlo hnw hv htop hwr hhas hsub hne h4 hL hW hfo h
              have hle := hh.top.le hlo
              have hF' : FS ν' T' L := ⟨fun t u hu => let ⟨lv, a, b⟩ := hF.at_ t u hu; ⟨lv, a, b.mono hle⟩⟩
              obtain ⟨T2, L2, hp, hF2, h⟩ := sPut_ok hF' h hv
              have hD : ∀ x ∈ delta r.o.H (ap' (below nx r.o.wr) (rng nx (r.o.nx - nx))), x.1 ∈ r.o.wr ∨ (nx ≤ x.1 ∧ x.1 < r.o.nx) := fun x hx => by
                have := delta_keys hx
                rw [ap'_eq, List.mem_append] at this
                rcases this with h | h
                · exact .inl (mem_below.1 h).1
                · have := mem_rng.1 h; exact .inr (by omega)
              have hD' : ∀ x ∈ delta r.o.H (ap' (below nx r.o.wr) (rng nx (r.o.nx - nx))), x.1 ∈ r.o.wr ∨ nx ≤ x.1 := fun x hx => (hD x hx).imp_right fun h => h.1
              have hhas' : ∀ q ∈ r.o.wr, nx ≤ q ∨ ∃ o, (heapOf tops H₀ g.ds).get q = some o := fun q hq => (hhas q hq).imp_right fun ⟨o, h⟩ => ⟨o, hsub q o h⟩
              have ent : ∀ w : Option (Option Nat), (∀ q ∈ r.o.wr, WOK ν w q) → EOK ν' snx' r.mx ⟨k, some lk, w, snx, snx'⟩ (delta r.o.H (ap' (below nx r.o.wr) (rng nx (r.o.nx - nx)))) := fun w hw => by
                refine ⟨nx, r.o.nx, hmx, Nat.le_refl _, fun e => ?_, fun id q o h1 h2 h3 => ?_, fun x hx => ?_⟩
                · by_cases e2 : r.o.nx = nx
                  · omega
                  · exact absurd e.symm (hne e2)
                · have h5 := (htop.lt id q o h1).2
                  by_cases hid : id < snx
                  · rw [hlo id hid] at h1
                    have := (hh.top.lt id q o h1).1; omega
                  · exact ⟨by show snx ≤ id; omega, h5⟩
                · rcases hD x hx with h | h
                  · exact .inr ((hw _ h).mono hle)
                  · exact .inl h
              cases wr' with
              | nil =>
                have hw0 : r.o.wr = [] := by
                  cases hq : r.o.wr with
                  | nil => rfl
                  | cons q l => obtain ⟨id, hid, _⟩ := hwr q (by rw [hq]; simp); cases hid
                have hw1 : ∀ q ∈ r.o.wr, WOK ν none q := fun q hq => by rw [hw0] at hq; cases hq
                simp only at h
                have hh' := half_add (k := k) (wr' := []) (lw' := r.o.wr) (fo := below nx r.o.wr) (Hs := Hs) (es' := addE k (some lk) none snx snx' es) hh hlo hnw (Nat.le_trans hup hmx) hsup htop hwr hhas' hD' addE_old (fun _ => ⟨_, addE_new (.inl (by simp)), rfl, ent none hw1⟩) (fun _ => ⟨_, addE_new (.inl (by simp)), rfl, hL.mono hle⟩) (fun h1 => absurd (by rw [hw0]; rfl) h1)
                obtain ⟨L', nx', lw', g', ν', s', es', e, r1⟩ := sDrawn_ok hc h hF2 hh'
                refine ⟨L', nx', lw', g', ν', s', es', ?_, r1⟩
                rw [evDrawn_step hw hm hsc hev hup hmx hhas (fun i fo hi => h4 hi) (fun h1 => absurd (by rw [hw0]; rfl) h1) hp]
                exact e
              | cons x l =>
                simp only at h
                cases hb : mayWrite M m (some lk) es
                · simp only [hb, cond_false] at h
                · simp only [hb, cond_true] at h
                  have hh' := half_add (k := k) (wr' := x :: l) (lw' := r.o.wr) (fo := below nx r.o.wr) (Hs := Hs) (es' := addE k (some lk) (some lk) snx snx' es) hh hlo hnw (Nat.le_trans hup hmx) hsup htop hwr hhas' hD' addE_old (fun _ => ⟨_, addE_new (.inl (by simp)), rfl, ent _ hW⟩) (fun _ => ⟨_, addE_new (.inl (by simp)), rfl, hL.mono hle⟩) (fun _ => ⟨_, addE_new (.inl (by simp)), rfl, fun q hq => (hW q (mem_below.1 hq).1).mono hle⟩)
                  obtain ⟨L', nx', lw', g', ν', s', es', e, r1⟩ := sDrawn_ok hc h hF2 hh'
                  refine ⟨L', nx', lw', g', ν', s', es', ?_, r1⟩
                  rw [evDrawn_step hw hm hsc hev hup hmx hhas (fun i fo hi => h4 hi) (fun _ i Hi hi => half_hs hh hb ((hfo (by simp)).imp_left (congrArg some)) hi) hp]
                  exact e
            cases lk with
            | some id₀ =>
              simp only [mayGo, Bool.and_eq_true] at hgo
              obtain ⟨so₀, hg₀⟩ := here_ok hgo.1
              cases hop : o.op <;> rw [hop] at h hk <;> simp only [looks] at hk <;> try (cases hk; done)
              case load t x =>
                simp only [sOp] at h
                obtain ⟨r, o', hx, o'', hr⟩ : ∃ r o', evO L x = some (.p r o') ∧ ∃ o'', ν id₀ = some (r, o'') := by
                  split at hk
                  · rename_i id off hx
                    cases hk
                    obtain ⟨lx, a, r, b, rfl⟩ := sO_ok hF hx
                    exact ⟨r, off, a, 0, b⟩
                  · rename_i id z i j hx
                    cases hk
                    obtain ⟨lx, a, r, o', b, _, rfl⟩ := sO_ok hF hx
                    exact ⟨r, _, a, o', b⟩
                  · cases hk
                have hE := half_old hh hg₀ hr hgo.2
                have hO : ∀ id so, looks T' (.load t x) = some (some id) → M.get id = some so → OS ν (one (heapOf m.testBit H₀ g.ds) r) id so := fun id so hl hg => by
                  have : id = id₀ := by
                    have hk' : looks T' (.load t x) = some (some id₀) := hk
                    rw [hk'] at hl; cases hl; rfl
                  subst this
                  refine ((hh.top.at_ id so hg).2).same fun r1 o1 lo h1 h2 => ?_
                  rw [hr] at h1; cases h1
                  exact got_one (by rw [hE]; exact h2)
                obtain ⟨v, lv, he, hv, h⟩ := sLoad_val (nx := nx) hF hO h
                refine common (Hs := one (heapOf m.testBit H₀ g.ds) r) (r := ⟨⟨lv, one (heapOf m.testBit H₀ g.ds) r, nx, []⟩, nx⟩) (ν' := ν) (v := v) (M' := M) (snx' := snx) (wr' := []) (by rw [hop]; simp only [scopeOf, hx]) (by rw [hop]; simp only [evOp, he, res]) (Nat.le_refl _) (Nat.le_refl _) (Nat.le_refl _) (fun _ _ => rfl) (fun id q o h1 h2 => by have := (hh.top.lt id q o h2).2; omega) hv ?_ (by simp) (by simp) (fun q lo hq => ?_) (fun h1 => absurd rfl h1) (fun hi => half_fs hh hg₀ hr hgo.2 hi) (.inr ⟨id₀, rfl, fun q lo hq => by rw [one_get hq]; exact ⟨o'', hr⟩⟩) (by simp) (fun h1 => absurd rfl h1) h
                · have e0 : delta (one (heapOf m.testBit H₀ g.ds) r) (ap' (below nx []) (rng nx (nx - nx))) = [] := delta_nil (by simp [below, ap', rng])
                  rw [e0]; exact hh.top
                · have := one_get hq; subst this
                  unfold one at hq
                  split at hq
                  · rename_i o2 h2
                    rw [Tr.get_set_same] at hq; cases hq
                    rw [← hE]; exact h2
                  · simp [Tr.get_l] at hq
              case store t x y =>
                simp only [sOp] at h
                obtain ⟨r, off, o'', hx0, hr0⟩ : ∃ r off o'', evO L x = some (.p r off) ∧ ν id₀ = some (r, o'') := by
                  split at hk
                  · rename_i id off hx
                    cases hk
                    obtain ⟨lx, a, r, b, rfl⟩ := sO_ok hF hx
                    exact ⟨r, off, 0, a, b⟩
                  · rename_i id z i j hx
                    cases hk
                    obtain ⟨lx, a, r, o', b, _, rfl⟩ := sO_ok hF hx
                    exact ⟨r, _, o', a, b⟩
                  · cases hk
                have hE := half_old hh hg₀ hr0 hgo.2
                obtain ⟨id, r1, so, so', lo', hg, hm1, hm2, hr, ⟨o', hx⟩, ⟨lo, hlo⟩, hos, he, h⟩ := sStore_val (nx := nx) (H' := one (heapOf m.testBit H₀ g.ds) r) hF (fun id r o hr => (hh.top.lt id r o hr).1) (fun id so r1 o' o2 hx hr hg => by
                  rw [hx0] at hx; cases hx
                  refine ((hh.top.at_ id so hg).2).same fun r1 o1 lo h1 h2 => ?_
                  rw [hr] at h1; cases h1
                  exact got_one (by rw [hE]; exact h2)) h
                have er : r1 = r := by rw [hx0] at hx; cases hx; rfl
                subst er
                obtain rfl : id = id₀ := hh.top.inj id id₀ r1 0 o'' _ so₀ hg hm1 hg₀ hr hr0
                refine common (Hs := one (heapOf m.testBit H₀ g.ds) r1) (r := ⟨⟨.tup [], (one (heapOf m.testBit H₀ g.ds) r1).set r1 (some lo'), nx, [r1]⟩, nx⟩) (ν' := ν) (v := .tup []) (M' := M.set id (some so')) (snx' := snx) (wr' := [id]) (by rw [hop]; simp only [scopeOf, hx0]) (by rw [hop]; simp only [evOp, he, res]) (Nat.le_refl _) (Nat.le_refl _) (Nat.le_refl _) (fun _ _ => rfl) (fun id q o h1 h2 => by have := (hh.top.lt id q o h2).2; omega) ⟨[], rfl, rfl⟩ ?_ (fun q hq => ⟨id, by simp, 0, by simp at hq; subst hq; exact hr⟩) (fun q hq => by simp at hq; subst hq; exact .inr ⟨lo, hlo⟩) (fun q lo hq => ?_) (fun h1 => absurd rfl h1) (fun hi => half_fs hh hg₀ hr hgo.2 hi) (.inr ⟨id, rfl, fun q lo hq => by rw [one_get hq]; exact ⟨0, hr⟩⟩) (fun q hq => .inr ⟨id, 0, rfl, by simp at hq; subst hq; exact hr⟩) (fun _ => .inr ⟨id, r1, _, rfl, hg, hm1, hr, fun q hq => by simpa using (mem_below.1 hq).1⟩) h
                · have hrl : r1 < nx := (hh.top.lt id r1 0 hr).1
                  have e0 : delta ((one (heapOf m.testBit H₀ g.ds) r1).set r1 (some lo')) (ap' (below nx [r1]) (rng nx (nx - nx))) = [(r1, some lo')] := by
                    have hb : Nat.blt r1 nx = true := by simpa using hrl
                    have : ap' (below nx [r1]) (rng nx (nx - nx)) = [r1] := by simp [below, hb, ap', rng]
                    rw [this, delta_cons, Tr.get_set_same]; rfl
                  rw [e0, applyD_cons]
                  exact hs_write hh.top hg hm1 hm2 hr (hos _ (Tr.get_set_same _ _ _))
                · have := one_get hq; subst this
                  unfold one at hq
                  split at hq
                  · rename_i o2 h2
                    rw [Tr.get_set_same] at hq; cases hq
                    rw [← hE]; exact h2
                  · simp [Tr.get_l] at hq
              case call c =>
                obtain ⟨callee, args, ts⟩ := c
                cases callee with
                | value f => cases hk
                | invoke x m => cases hk
                | builtin b => cases b <;> cases hk
            | none =>
              simp only [mayGo] at hgo
              have hE := half_all hh hgo
              have hM : HS ν M snx (heapOf m.testBit H₀ g.ds) nx := by rw [hE]; exact hh.top
              have called : ∀ {c : Call}, scopeOf L m.testBit H₀ g.ds o.op = heapOf m.testBit H₀ g.ds → o.op = .call c → ∀ {K : KS (stdA fs ov)}, sCallee P (noR cs) T' M snx c K → ∃ (r : Res) (ν' : Nm) (v : SV (stdA fs ov)) (M' : SH (stdA fs ov)) (snx' : Nat) (wr' : List Nat), evOp P call L (heapOf m.testBit H₀ g.ds) nx o.op = some r ∧ r.o.nx ≤ r.mx ∧ Got ν snx (heapOf m.testBit H₀ g.ds) nx ν' v M' snx' wr' r.o ∧ HS ν' M' snx' (applyD (heapOf tops H₀ g.ds) (delta r.o.H (ap' (below nx r.o.wr) (rng nx (r.o.nx - nx))))) r.mx ∧ K v M' snx' wr' := by
                intro c hsc hop K h
                obtain ⟨r, he, hmx, o1, ν', v, M', snx', wr', e1, hG, h⟩ := sCallee_ok (P := P) hc hF hM h
                cases e1
                refine ⟨r, ν', v, M', snx', wr', by rw [hop]; simp only [evOp]; exact he, hmx, hG, ?_, h⟩
                refine hG.hs.same (fun q hq => ?_) hmx
                rw [get_applyD]
                split
                · rfl
                · rename_i hn
                  rw [ap'_eq, List.mem_append, not_or] at hn
                  have hq' : q < nx := by
                    have := hn.2; rw [mem_rng] at this; have := hG.up; omega
                  rw [← hE]
                  exact (hG.keep q hq' fun hq2 => hn.1 (mem_below.2 ⟨hq2, hq'⟩)).symm
              cases hop : o.op <;> rw [hop] at h hk <;> simp only [looks] at hk <;> try (cases hk; done)
              case load t x =>
                simp only [sOp, sLoad] at h
                split at h
                · rename_i h1; simp [h1] at hk
                · rename_i h1; simp [h1] at hk
                · exact h.elim
              case store t x y =>
                simp only [sOp, sStore] at h
                split at h
                · rename_i h1 _ _; simp [h1] at hk
                · rename_i h1 _ _; simp [h1] at hk
                · exact h.elim
              case call c =>
                have hsc : scopeOf L m.testBit H₀ g.ds o.op = heapOf m.testBit H₀ g.ds := by
                  rw [hop]
                  obtain ⟨callee, args, ts⟩ := c
                  cases callee with
                  | invoke x m => cases hk
                  | builtin b => cases b <;> first | rfl | cases hk
                  | value f => rfl
                simp only [sOp] at h
                obtain ⟨r, ν', v, M', snx', wr', he, hmx, hG, htop, h⟩ := called hsc hop h
                exact common (Hs := heapOf m.testBit H₀ g.ds) (r := r) (ν' := ν') (v := v) (M' := M') (snx' := snx') (wr' := wr') hsc he hmx hG.up hG.sup hG.lo hG.nw hG.v htop hG.wr (fun q hq => hG.has q hq) (fun q o hq => by rw [← hE]; exact hq) hG.same (fun hi => half_fs_all hh hgo hi) (.inl rfl) (fun q hq => .inl rfl) (fun _ => .inl rfl) h
    · obtain ⟨T2, L2, hp, hF2, h⟩ := sPut_ok hF h (show VS ν (.tup []) (.tup []) from ⟨[], rfl, rfl⟩)
      obtain ⟨L', nx', lw', g', ν', s', es', e, r1⟩ := sDrawn_ok hc h hF2 hh
      refine ⟨L', nx', lw', g', ν', s', es', ?_, r1⟩
      obtain ⟨ds, hl, fl⟩ := g
      simp only [evDrawn, hw, hp, nN_eq]
      exact e
end Go.Rx

set_option linter.unusedSimpArgs false
set_option linter.unusedVariables false
set_option linter.unusedSectionVars false
namespace Go.Rx
open Go
variable {fs : Fs} {ov : Bool} {ν : Nm} {P : Program} {T : Al (SV (stdA fs ov))} {L : Tr LV} {M : SH (stdA fs ov)} {H : Hp} {snx nx : Nat} {W : Nat → Prop}

theorem sRegion_ok {cs : CallS (stdA fs ov)} {call : CallT} (hc : CallSOK cs call) {ops : Array Oper} {draw : Bool} {s : SS (stdA fs ov)} {S : Rx.S} {K : SS (stdA fs ov) → Prop} (h : sRegion P cs ops draw s K) (hs : Sim W ν s S) :
    ∃ S' ν' s', evRegion P call ops draw S = some (.normal, S') ∧ XT ν s S ν' s' S' ∧ Sim W ν' s' S' ∧ K s' := by
  cases draw with
  | false =>
    obtain ⟨S', ν', s', h1, h2⟩ := sOps_ok hc h hs
    exact ⟨S', ν', s', by simp only [evRegion, h1], h2⟩
  | true =>
    simp only [sRegion, Tr.force_eq] at h
    cases hr : regOK ops (masksFrom ops.toList 0 .l) with
    | false => simp only [hr, cond_false] at h <;> exact h.elim
    | true =>
      simp only [hr, cond_true] at h
      obtain ⟨T, N, M, snx, wr⟩ := s
      obtain ⟨L, N', H, nx, lw, df, mx⟩ := S
      obtain rfl : N' = N := hs.N
      have hh : Half W ν snx nx H lw wr ν M snx nx wr lw [] ⟨[], [], []⟩ :=
        ⟨hs.H, fun i D hi => (by cases hi), fun i Hi hi => (by cases hi), fun i fo hi => (by cases hi), fun _ _ => rfl, fun id q o h1 h2 => (by have := (hs.H.lt id q o h2).2; dsimp only at this; omega), Nat.le_refl _, Nat.le_refl _, hs.wr, fun _ h => h, fun _ _ _ => rfl, fun _ h => h, fun _ _ _ => rfl, fun q hq => .inl hq, fun id r o h => hs.H.lt id r o h⟩
      obtain ⟨L', nx', lw', g', ν', s', es', e, hF, hh', hN, hK⟩ := sDrawn_ok (H₁ := H) (df := df) (mx := mx) hc h hs.T hh
      obtain ⟨ds, hl, fl⟩ := g'
      refine ⟨⟨L', N', heapOf tops H ds, nx', lw', df, more' mx nx'⟩, ν', s', ?_, ⟨hh'.lo, fun id q o h1 h2 => .inl (hh'.nw id q o h1 h2), hh'.up, hh'.sup, hh'.mono, hh'.swr, hh'.keepS, hh'.keep, hh'.has, .of rfl⟩, ⟨hN.symm, hF, hh'.top, (more'_le _ _).2, hh'.wrs, fun q hq => hs.wup q (Nat.le_trans hh'.up hq)⟩, hK⟩
      simp only [evRegion, evDraw, Tr.force_eq, hr, cond_true, e, nN_eq]
def GoC (W : Nat → Prop) (ν : Nm) (s : SS (stdA fs ov)) (S : Rx.S) (K : Ex → SS (stdA fs ov) → Prop) (x : Option (Ex × Rx.S)) : Prop := ∃ e S' ν' s', x = some (e, S') ∧ XT ν s S ν' s' S' ∧ Sim W ν' s' S' ∧ K e s'
/-- What is told of the loops of a text is so. -/
def LoopsOK (P : Program) (call : CallT) (L : Nat) (root : Code) (lp : LoopS (stdA fs ov)) : Prop := ∀ p rg f, lp p = some (rg, f) → ∀ c ro, (rg = false → ro = none) → codeAt root p = some (.loop c) → ∀ s K W ν S, f c s K → Sim W ν s S → GoC W ν s S K (evLoop L (fun s => evC P call ro L c s) S)
theorem GoC.then {s : SS (stdA fs ov)} {S : Rx.S} {K K' : Ex → SS (stdA fs ov) → Prop} {x y : Option (Ex × Rx.S)} (h : GoC W ν s S K x) (hy : ∀ e S' ν' s', x = some (e, S') → Sim W ν' s' S' → K e s' → GoC W ν' s' S' K' y) : GoC W ν s S K' y := by
  obtain ⟨e, S', ν', s', h1, h2, h3, h4⟩ := h
  obtain ⟨e2, S2, ν2, s2, k1, k2, k3, k4⟩ := hy e S' ν' s' h1 h3 h4
  exact ⟨e2, S2, ν2, s2, k1, h2.trans h3 k2, k3, k4⟩
theorem goC_stop {s : SS (stdA fs ov)} {S : Rx.S} {K : Ex → SS (stdA fs ov) → Prop} {e : Ex} (hs : Sim W ν s S) (hK : K e s) {x : Option (Ex × Rx.S)} (hx : x = some (e, S)) : GoC W ν s S K x := ⟨e, S, ν, s, hx, XT.refl hs.H, hs, hK⟩
theorem unroll_ok {body : SS (stdA fs ov) → (Ex → SS (stdA fs ov) → Prop) → Prop} {f : Rx.S → Option (Ex × Rx.S)} (hb : ∀ s K ν S, body s K → Sim W ν s S → GoC W ν s S K (f S)) :
    ∀ {n m : Nat} {s : SS (stdA fs ov)} {K : Ex → SS (stdA fs ov) → Prop} {ν : Nm} {S : Rx.S}, unroll (A := stdA fs ov) body n s K → n ≤ m → Sim W ν s S → GoC W ν s S K (evLoop m f S)
  | 0, _, _, _, _, _, h, _, _ => h.elim
  | n + 1, 0, _, _, _, _, _, hm, _ => absurd hm (by omega)
  | n + 1, m + 1, s, K, ν, S, h, hm, hs => by
    simp only [unroll] at h
    refine (hb _ _ ν S h hs).then fun e S' ν' s' h1 h2 h3 => ?_
    simp only [evLoop, h1]
    cases e with
    | normal => exact unroll_ok hb h3 (by omega) h2
    | exit j => exact goC_stop h2 h3 rfl
    | goto j => exact goC_stop h2 h3 rfl
    | ret => exact goC_stop h2 h3 rfl
theorem sKnow_ok {c : Operand} {x : Bool} {s : SS (stdA fs ov)} {S : Rx.S} {K : SS (stdA fs ov) → Prop} (h : sKnow c x s K) (hs : Sim W ν s S) (hx : sO s.T c = some (.b x)) : ∃ s', (s'.nx = s.nx ∧ s'.wr = s.wr) ∧ Sim W ν s' S ∧ K s' := by
  unfold sKnow at h
  cases c with
  | tmp t =>
    simp only [Al.force_eq] at h
    exact ⟨⟨s.T.set t (some (.b x)), s.N, s.H, s.nx, s.wr⟩, ⟨rfl, rfl⟩, ⟨hs.N, fs_know hs.T hx, hs.H, hs.mx, hs.wr, hs.wup⟩, h⟩
  | _ => exact ⟨s, ⟨rfl, rfl⟩, hs, h⟩
theorem GoC.know {s s' : SS (stdA fs ov)} {S : Rx.S} {K : Ex → SS (stdA fs ov) → Prop} {x : Option (Ex × Rx.S)} (e : s'.nx = s.nx ∧ s'.wr = s.wr) (h : GoC W ν s' S K x) : GoC W ν s S K x := by
  obtain ⟨e1, S', ν', s1, h1, h2, h3, h4⟩ := h
  obtain ⟨a, b⟩ := e
  exact ⟨e1, S', ν', s1, h1, ⟨a ▸ h2.lo, a ▸ h2.nw, h2.up, a ▸ h2.sup, h2.wr, b ▸ h2.swr, h2.keepS, h2.keep, h2.has, h2.df⟩, h3, h4⟩
theorem HS.same' {H' : Hp} (hM : HS ν M snx H nx) (hk : ∀ id r o, ν id = some (r, o) → H'.get r = H.get r) : HS ν M snx H' nx :=
  ⟨fun id so h => ⟨(hM.at_ id so h).1, (hM.at_ id so h).2.same fun r o lo h1 h2 => by rw [hk id r o h1]; exact h2⟩, hM.lt, hM.inj⟩
theorem HS.kill (hM : HS ν M snx H nx) {id r : Nat} {so : SO (stdA fs ov)} {lo : Option LO} (hg : M.get id = some so) (hm : so.mine = true) (hr : ν id = some (r, 0)) : HS ν (M.set id none) snx (H.set r lo) nx := by
  refine ⟨fun id' so' h => ?_, hM.lt, fun id1 id2 r1 o1 o2 so1 so2 h1 h2 h3 h4 h5 => ?_⟩
  · rw [Al.get_set] at h
    split at h
    · cases h
    · rename_i hne
      obtain ⟨a, b⟩ := hM.at_ id' so' h
      refine ⟨a, b.sub (fun _ _ h => h) rfl fun r' o' lo' c1 c2 => ?_⟩
      rw [Tr.get_set_ne _ _ fun e => ?_]; exact c2
      subst e
      exact hne (hM.inj id id' r' 0 o' so so' hg hm h hr c1).symm
  · have old : ∀ {j o}, (M.set id none).get j = some o → M.get j = some o := fun {j o} h => by
      rw [Al.get_set] at h
      split at h
      · cases h
      · exact h
    exact hM.inj id1 id2 r1 o1 o2 so1 so2 (old h1) h2 (old h3) h4 h5
theorem rngAt_of {g : Nat} {p : List Bool} {fn : Func} {root : Code} {f : Operand} {ps : Array Tmp} {as body : Code} (h1 : P.funcs[g]? = some fn) (h2 : fn.body = some root) (h3 : codeAt root p = some (.rangeFunc f ps as body)) : rngAt P g p = some (ps, as, body) := by
  simp only [rngAt, h1, h2, h3]
/-- A range over a function. -/
theorem sRange_ok {cs : CallS (stdA fs ov)} {call : CallT} (hc : CallSOK cs call) {g : FuncId} {p : List Bool} {f : Operand} {ps : Array Tmp} {as body : Code} (hrng : fs.rng g p = some (ps, as, body)) {s : SS (stdA fs ov)} {S : Rx.S} {K : Ex → SS (stdA fs ov) → Prop} {g' : FuncId} {cap : List (SV (stdA fs ov))} (hf : sO s.T f = some (.fn g' [] cap))
    {KK : KS (stdA fs ov)} (h : cs (.f g') (.yld s.nx :: cap) (s.H.set s.nx (some (.frm g p s.N s.T false .normal))) (s.nx + 1) KK)
    (hKK : ∀ v H nx wr, KK v H nx wr → ∃ g1 p1 N1 T1 e, H.get s.nx = some (.frm g1 p1 N1 T1 false e) ∧ K e ⟨s.T, s.N, H.set s.nx none, nx, addW [s.nx] (addW wr s.wr)⟩) (hs : Sim W ν s S) : GoC W ν s S K (evRange call none f ps as body S) := by
  obtain ⟨T, N, M, snx, wr⟩ := s
  obtain ⟨L, N', H, nx, lw, df, mx⟩ := S
  obtain rfl : N' = N := hs.N
  have hM0 : HS ν M snx H nx := hs.H
  obtain ⟨lf, e1, e2⟩ := sO_ok hs.T hf
  obtain ⟨a', c', rfl, e3, e4⟩ := e2
  obtain rfl : a' = [] := e3
  have hM1 : HS ν M snx (H.set nx (some .dfr)) (nx + 1) := hM0.same (fun r hr => Tr.get_set_ne _ _ (by omega)) (Nat.le_succ _)
  obtain ⟨hM2, hle1⟩ := hs_new (so := .frm g p N' T false .normal) (lo := .loop .ready none N' L ps as body nx) hM1 (fun ν' hle hn H' hH => ⟨nx + 1, ps, as, body, nx, L, hn, hH, FS.up hs.T hle, hrng, fun h => by cases h⟩)
  have hVL : VSL (updN ν snx (some (nx + 1, 0))) (.yld snx :: cap) (.yld (nx + 1) :: c') := VSL.cons ⟨nx + 1, updN_same, rfl⟩ (e4.mono hle1)
  obtain ⟨r, ν', v, M', snx', wr', he, hmx, hG, h⟩ := hc.y g' _ _ _ _ h rfl _ _ _ _ hVL hM2
  obtain ⟨g1, p1, N1, T1, e, hg, h⟩ := hKK _ _ _ _ h
  · have hle2 : NLe (updN ν snx (some (nx + 1, 0))) ν' := hM2.le hG.lo
    have hle : NLe ν ν' := fun id x hx => hle2 id x (hle1 id x hx)
    have hlo : ∀ id, id < snx → ν' id = ν id := fun id hid => by rw [hG.lo id (show id < snx + 1 by omega), updN_ne (by omega)]
    have hl : ν' snx = some (nx + 1, 0) := by rw [hG.lo snx (show snx < snx + 1 by omega), updN_same]
    obtain ⟨_, r1, ps1, as1, body1, d1, L1, k1, k2, _⟩ := hG.hs.at_ snx _ hg
    rw [hl] at k1; cases k1
    have hnw : ∀ id q o, snx + 1 ≤ id → ν' id = some (q, o) → nx + 2 ≤ q ∨ ∃ id0 ∈ wr', id0 < snx + 1 ∧ ∃ o', ν' id0 = some (q, o') := fun id q o h1 h2 => hG.nw id q o h1 h2
    have hup : nx + 2 ≤ r.o.nx := hG.up
    -- blocks that are not written
    have hkeep : ∀ q, q < nx + 2 → q ∉ r.o.wr → r.o.H.get q = ((H.set nx (some .dfr)).set (nx + 1) (some (.loop .ready none N' L ps as body nx))).get q := fun q h1 h2 => hG.keep q h1 h2
    have hwr : ∀ q ∈ r.o.wr, ∃ id ∈ wr', ∃ o, ν' id = some (q, o) ∧ (q < nx ∨ q = nx + 1) := fun q hq => by
      obtain ⟨id, a, o, b⟩ := hG.wr q hq
      refine ⟨id, a, o, hle2 _ _ b, ?_⟩
      by_cases hid : id = snx
      · subst hid; rw [updN_same] at b; cases b; exact .inr rfl
      · rw [updN_ne hid] at b; exact .inl (hM0.lt id q o b).1
    have hdn : nx ∉ r.o.wr := fun hq => by obtain ⟨_, _, _, _, h⟩ := hwr nx hq; omega
    have hunn : ∀ id o, ν' id ≠ some (nx, o) := fun id o hid => by
      have low : ∀ id o, id < snx + 1 → ν' id ≠ some (nx, o) := fun id o hlt hid => by
        by_cases e : id = snx
        · subst e; rw [hl] at hid; cases hid
        · rw [hlo id (by omega)] at hid; have := (hM0.lt id nx o hid).1; omega
      by_cases hlt : id < snx + 1
      · exact low id o hlt hid
      · rcases hnw id nx o (by omega) hid with h1 | ⟨id0, _, h2, o', h3⟩
        · omega
        · exact low id0 o' h2 h3
    have hst : notBusy (bif false then LoopState.busy else e.st) = true := by cases e <;> rfl
    have hj : jump e.code = some e := by cases e <;> rfl
    have b1 : Nat.ble (nx + 2) r.o.nx = true := by simpa using hup
    have b2 : Nat.ble r.o.nx r.mx = true := by simpa using hmx
    obtain ⟨x, w, hxw⟩ : ∃ x w, addW [nx + 1] (addW r.o.wr lw) = x :: w := by
      cases hq : addW [nx + 1] (addW r.o.wr lw) with
      | nil => have : nx + 1 ∈ addW [nx + 1] (addW r.o.wr lw) := mem_addW.2 (.inl (by simp)); rw [hq] at this; cases this
      | cons x w => exact ⟨x, w, rfl⟩
    have hin : ∀ q, q ∈ x :: w ↔ q = nx + 1 ∨ q ∈ r.o.wr ∨ q ∈ lw := fun q => by
      rw [← hxw, mem_addW, mem_addW]; simp
    refine ⟨e, ⟨L, N', r.o.H.set (nx + 1) (some (.loop .exhausted e.code N1 L1 ps1 as1 body1 d1)), r.o.nx, x :: w, nx :: df, more' mx r.mx⟩, ν', _, ?_, ?_, ?_, h⟩
    · obtain ⟨⟨v', H', nx', lw'⟩, m⟩ := r
      simp only [evRange, e1, nN_eq, Tr.force_eq, he, endRange, k2, b1, b2, hst, Bool.and_true, cond_true, hj]
      dsimp only at hxw
      rw [hxw]
    · refine ⟨hlo, fun id q o h1 h2 => ?_, by show nx ≤ r.o.nx; omega, by show snx ≤ snx'; have := hG.sup; omega, fun q hq => (hin q).2 (.inr (.inr hq)), fun id hid => mem_addW.2 (.inr (mem_addW.2 (.inr hid))), fun q hq hn => ?_, fun q hq hn => ?_, fun q hq => ?_, ⟨[nx], rfl, by simp, fun d hd => ?_⟩⟩
      · by_cases hid : id = snx
        · subst hid; rw [hl] at h2; cases h2; left; show nx ≤ nx + 1; omega
        · rcases hnw id q o (by dsimp only at h1; omega) h2 with h3 | ⟨id0, a, b, o', c⟩
          · left; show nx ≤ q; omega
          · by_cases h0 : id0 = snx
            · subst h0; rw [hl] at c; cases c; left; show nx ≤ nx + 1; omega
            · exact .inr ⟨id0, mem_addW.2 (.inr (mem_addW.2 (.inl a))), by show id0 < snx; omega, o', c⟩
      · show (r.o.H.set _ _).get q = H.get q
        have hq' : q < nx := hq
        rw [Tr.get_set_ne _ _ (by omega), hkeep q (by omega) fun hq2 => ?_, Tr.get_set_ne _ _ (by omega), Tr.get_set_ne _ _ (by omega)]
        obtain ⟨id, a, o, b, _⟩ := hwr q hq2
        exact hn id (mem_addW.2 (.inr (mem_addW.2 (.inl a)))) o b
      · show (r.o.H.set _ _).get q = H.get q
        have hq' : q < nx := hq
        rw [Tr.get_set_ne _ _ (by omega), hkeep q (by omega) fun hq2 => hn ((hin q).2 (.inr (.inl hq2))), Tr.get_set_ne _ _ (by omega), Tr.get_set_ne _ _ (by omega)]
      · rcases (hin q).1 hq with rfl | hq | hq
        · right; left; show nx ≤ nx + 1; omega
        · rcases hG.has q hq with h3 | ⟨o, h3⟩
          · right; left; show nx ≤ q; omega
          · by_cases hlt : nx ≤ q
            · exact .inr (.inl hlt)
            · rw [Tr.get_set_ne _ _ (by omega), Tr.get_set_ne _ _ (by omega)] at h3
              exact .inr (.inr ⟨o, h3⟩)
        · exact .inl hq
      · simp at hd; subst hd
        refine ⟨Nat.le_refl _, by show d < r.o.nx; omega, ?_, hunn⟩
        show (r.o.H.set _ _).get d = _
        rw [Tr.get_set_ne _ _ (by omega), hkeep d (by omega) hdn, Tr.get_set_ne _ _ (by omega), Tr.get_set_same]
    · refine ⟨rfl, FS.up hs.T hle, hG.hs.kill hg rfl hl, Nat.le_trans hmx (more'_le _ _).2, fun q hq => ?_, fun q hq => hs.wup q (by show nx ≤ q; have : r.o.nx ≤ q := hq; omega)⟩
      rcases (hin q).1 hq with rfl | hq | hq
      · exact .inl (hs.wup _ (by show nx ≤ nx + 1; omega))
      · obtain ⟨id, a, o, b, _⟩ := hwr q hq
        exact .inr ⟨id, mem_addW.2 (.inr (mem_addW.2 (.inl a))), o, b⟩
      · rcases hs.wr q hq with hW | ⟨id, a, o, b⟩
        · exact .inl hW
        · exact .inr ⟨id, mem_addW.2 (.inr (mem_addW.2 (.inr a))), o, hle _ _ b⟩
theorem sCode_ok {cs : CallS (stdA fs ov)} {call : CallT} (hc : CallSOK cs call) {root : Code} {lp : LpG (stdA fs ov)} {L U : Nat} (hl : LoopsOK P call L root lp.at_) (hr : ∀ p x, lp.rg = false → rngAt P lp.g p = some x → fs.rng lp.g p = some x) (hroot : ∃ fn, P.funcs[lp.g]? = some fn ∧ fn.body = some root) (hU : U ≤ L) {ro : Option Nat} (hro : lp.rg = false → ro = none) :
    ∀ {c : Code} {p : List Bool} {s : SS (stdA fs ov)} {S : Rx.S} {K : Ex → SS (stdA fs ov) → Prop} {ν : Nm}, sCode P cs lp U p c s K → codeAt root p = some c → Sim W ν s S → GoC W ν s S K (evC P call ro L c S)
  | .skip, p, s, S, K, ν, h, hp, hs => goC_stop hs h rfl
  | .region id ops draw, p, s, S, K, ν, h, hp, hs => by
    obtain ⟨S', ν', s', h1, h2, h3, h4⟩ := sRegion_ok hc h hs
    exact ⟨.normal, S', ν', s', h1, h2, h3, h4⟩
  | .seq a b, p, s, S, K, ν, h, hp, hs => by
    simp only [sCode] at h
    refine (sCode_ok (ro := ro) hc hl hr hroot hU hro h (by simp [codeAt, hp]) hs).then fun e S' ν' s' h1 h2 h3 => ?_
    simp only [evC, h1]
    cases e with
    | normal => exact sCode_ok (ro := ro) hc hl hr hroot hU hro h3 (by simp [codeAt, hp]) h2
    | exit j => exact goC_stop h2 h3 rfl
    | goto j => exact goC_stop h2 h3 rfl
    | ret => exact goC_stop h2 h3 rfl
  | .cond c a b, p, s, S, K, ν, h, hp, hs => by
    simp only [sCode] at h
    split at h
    · rename_i x hx
      obtain ⟨lv, h1, h2⟩ := sO_ok hs.T hx
      obtain rfl := h2
      have h' : cond x _ _ := h
      simp only [evC, h1]
      cases x
      · obtain ⟨s', e, hs', h⟩ := sKnow_ok (show sKnow c false s (fun s => sCode P cs lp U (true :: p) b s K) from h') hs hx
        exact GoC.know e (sCode_ok (ro := ro) hc hl hr hroot hU hro h (by simp [codeAt, hp]) hs')
      · obtain ⟨s', e, hs', h⟩ := sKnow_ok (show sKnow c true s (fun s => sCode P cs lp U (false :: p) a s K) from h') hs hx
        exact GoC.know e (sCode_ok (ro := ro) hc hl hr hroot hU hro h (by simp [codeAt, hp]) hs')
    · exact h.elim
  | .block id c, p, s, S, K, ν, h, hp, hs => by
    simp only [sCode] at h
    refine (sCode_ok (ro := ro) hc hl hr hroot hU hro h (by simp [codeAt, hp]) hs).then fun e S' ν' s' h1 h2 h3 => ?_
    simp only [evC, h1]
    cases e with
    | normal => exact goC_stop h2 h3 rfl
    | exit j =>
      simp only at h3 ⊢
      cases hj : Nat.beq j id
      · simp only [hj, cond_false] at h3 ⊢; exact goC_stop h2 h3 rfl
      · simp only [hj, cond_true] at h3 ⊢; exact goC_stop h2 h3 rfl
    | goto j => exact goC_stop h2 h3 rfl
    | ret => exact goC_stop h2 h3 rfl
  | .loop c, p, s, S, K, ν, h, hp, hs => by
    simp only [sCode] at h
    cases hf : lp.at_ p with
    | some x =>
      obtain ⟨rg, f⟩ := x
      simp only [hf] at h
      split at h
      · exact hl p true f hf c ro (fun e => by cases e) hp s K W ν S h hs
      · rename_i h1
        exact hl p false f hf c ro (fun _ => hro h1) hp s K W ν S h hs
      · exact h.elim
    | none =>
      simp only [hf] at h
      simp only [evC]
      exact unroll_ok (fun s K ν S hb hs => sCode_ok (ro := ro) hc hl hr hroot hU hro hb (by simp [codeAt, hp]) hs) h hU hs
  | .exit id, p, s, S, K, ν, h, hp, hs => goC_stop hs h rfl
  | .scope c, p, s, S, K, ν, h, hp, hs => by
    simp only [sCode] at h
    refine (sCode_ok (ro := ro) hc hl hr hroot hU hro h (by simp [codeAt, hp]) hs).then fun e S' ν' s' h1 h2 h3 => ?_
    simp only [evC, h1]
    cases e with
    | normal => exact goC_stop h2 h3 rfl
    | exit j => exact goC_stop h2 h3 rfl
    | goto j => exact h3.elim
    | ret => exact goC_stop h2 h3 rfl
  | .label l, p, s, S, K, ν, h, hp, hs => goC_stop hs h rfl
  | .goto l, p, s, S, K, ν, h, hp, hs => goC_stop hs h rfl
  | .ret, p, s, S, K, ν, h, hp, hs => goC_stop hs h rfl
  | .rangeFunc f ps as body, p, s, S, K, ν, h, hp, hs => by
    simp only [sCode] at h
    split at h
    · rename_i g' cap h1 hf
      simp only [Al.force_eq] at h
      obtain ⟨fn, k1, k2⟩ := hroot
      rw [hro h1]
      refine sRange_ok hc (hr p _ h1 (rngAt_of k1 k2 hp)) hf h (fun v H nx wr h => ?_) hs
      split at h
      · rename_i g1 p1 N1 T1 e hg
        exact ⟨g1, p1, N1, T1, e, hg, h⟩
      · exact h.elim
    · exact h.elim
  | .refuse _, p, s, S, K, ν, h, hp, hs => h.elim

/-- What is to be known of the text around. -/
structure CtxOK (P : Program) (call : CallT) (L : Nat) (root : Code) (lp : LpG (stdA fs ov)) (ro : Option Nat) : Prop where
  hl : LoopsOK P call L root lp.at_
  hr : ∀ p x, lp.rg = false → rngAt P lp.g p = some x → fs.rng lp.g p = some x
  hroot : ∃ fn, P.funcs[lp.g]? = some fn ∧ fn.body = some root
  hro : lp.rg = false → ro = none
theorem ctx_of {call : CallT} {L : Nat} {root : Code} {g : FuncId} {rg : Bool} {at_ : LoopS (stdA fs ov)} {ro : Option Nat} {fn : Func} (hl : LoopsOK P call L root at_) (h1 : P.funcs[g]? = some fn) (h2 : fn.body = some root) (hro : rg = false → ro = none) (hfs : fs.rng = rngAt P := by rfl) : CtxOK P call L root (⟨g, rg, at_⟩ : LpG (stdA fs ov)) ro :=
  ⟨hl, fun p x _ h => by rw [hfs]; exact h, ⟨fn, h1, h2⟩, hro⟩

/-! ### Calls -/
mutual
theorem vs_lt {ν' : Nm} {n m : Nat} (hl : ∀ id r o, id < n → ν' id = some (r, o) → r < m) : ∀ {x : SV (stdA fs ov)} {v : LV}, x.lt n = true → VS ν' x v → v.lt m = true
  | .b _, v, _, hv => by rw [show v = _ from hv]; rfl
  | .i _ _, v, _, hv => by rw [show v = _ from hv]; rfl
  | .s _, v, _, hv => by rw [show v = _ from hv]; rfl
  | .nilp, v, _, hv => by rw [show v = _ from hv]; rfl
  | .p id _, v, h, hv => by obtain ⟨r, h1, rfl⟩ := hv; have := hl id r 0 (by simpa [SV.lt] using h) h1; simpa [LV.lt] using this
  | .pe id _ _ _, v, h, hv => by obtain ⟨r, o, h1, _, rfl⟩ := hv; have := hl id r o (by simpa [SV.lt] using h) h1; simpa [LV.lt] using this
  | .nils, v, _, hv => by rw [show v = _ from hv]; rfl
  | .sl id _ _ _, v, h, hv => by obtain ⟨r, h1, rfl⟩ := hv; have := hl id r 0 (by simpa [SV.lt] using h) h1; simpa [LV.lt] using this
  | .ls _ id _, v, h, hv => by
    obtain ⟨h0, ⟨rfl, _⟩ | ⟨r, o, h1, ⟨_, rfl⟩ | ⟨_, c, _, rfl⟩⟩⟩ := hv
    · rfl
    · have := hl id r o (by simpa [SV.lt] using h) h1; simpa [LV.lt] using this
    · have := hl id r o (by simpa [SV.lt] using h) h1; simpa [LV.lt] using this
  | .fn _ a c, v, h, hv => by
    obtain ⟨a', c', rfl, h1, h2⟩ := hv
    simp only [SV.lt, Bool.and_eq_true] at h
    simp only [LV.lt, Bool.and_eq_true]
    exact ⟨vsl_lt hl h.1 h1, vsl_lt hl h.2 h2⟩
  | .yld id, v, h, hv => by obtain ⟨r, h1, rfl⟩ := hv; have := hl id r 0 (by simpa [SV.lt] using h) h1; simpa [LV.lt] using this
  | .nilf, v, _, hv => by rw [show v = _ from hv]; rfl
  | .nili, v, _, hv => by rw [show v = _ from hv]; rfl
  | .agg _, v, h, hv => by obtain ⟨l, rfl, h1⟩ := hv; exact vsl_lt hl (by simpa [SV.lt] using h) h1
  | .tup _, v, h, hv => by obtain ⟨l, rfl, h1⟩ := hv; exact vsl_lt hl (by simpa [SV.lt] using h) h1
theorem vsl_lt {ν' : Nm} {n m : Nat} (hl : ∀ id r o, id < n → ν' id = some (r, o) → r < m) : ∀ {l : List (SV (stdA fs ov))} {vs : List LV}, SV.ltL n l = true → VSL ν' l vs → LV.ltL m vs = true
  | [], vs, _, hv => by rw [show vs = [] from hv]; rfl
  | x :: l, vs, h, hv => by
    obtain ⟨y, r, rfl, h1, h2⟩ := hv
    simp only [SV.ltL, Bool.and_eq_true] at h
    simp only [LV.ltL, Bool.and_eq_true]
    exact ⟨vs_lt hl h.1 h1, vsl_lt hl h.2 h2⟩
end
mutual
theorem vs_low {ν' : Nm} {n : Nat} (hl : Lo n ν ν') : ∀ {x : SV (stdA fs ov)} {v : LV}, x.lt n = true → VS ν' x v → VS ν x v
  | .b _, v, _, hv => hv
  | .i _ _, v, _, hv => hv
  | .s _, v, _, hv => hv
  | .nilp, v, _, hv => hv
  | .p id _, v, h, hv => by obtain ⟨r, h1, rfl⟩ := hv; exact ⟨r, by rw [← hl id (by simpa [SV.lt] using h)]; exact h1, rfl⟩
  | .pe id _ _ _, v, h, hv => by obtain ⟨r, o, h1, h2, rfl⟩ := hv; exact ⟨r, o, by rw [← hl id (by simpa [SV.lt] using h)]; exact h1, h2, rfl⟩
  | .nils, v, _, hv => hv
  | .sl id _ _ _, v, h, hv => by obtain ⟨r, h1, rfl⟩ := hv; exact ⟨r, by rw [← hl id (by simpa [SV.lt] using h)]; exact h1, rfl⟩
  | .ls _ id _, v, h, hv => by
    have e := hl id (by simpa [SV.lt] using h)
    have hv' : LSr (ν' id) _ _ v := hv
    rw [e] at hv'; exact hv'
  | .fn _ a c, v, h, hv => by
    obtain ⟨a', c', rfl, h1, h2⟩ := hv
    simp only [SV.lt, Bool.and_eq_true] at h
    exact ⟨a', c', rfl, vsl_low hl h.1 h1, vsl_low hl h.2 h2⟩
  | .yld id, v, h, hv => by obtain ⟨r, h1, rfl⟩ := hv; exact ⟨r, by rw [← hl id (by simpa [SV.lt] using h)]; exact h1, rfl⟩
  | .nilf, v, _, hv => hv
  | .nili, v, _, hv => hv
  | .agg _, v, h, hv => by obtain ⟨l, rfl, h1⟩ := hv; exact ⟨l, rfl, vsl_low hl (by simpa [SV.lt] using h) h1⟩
  | .tup _, v, h, hv => by obtain ⟨l, rfl, h1⟩ := hv; exact ⟨l, rfl, vsl_low hl (by simpa [SV.lt] using h) h1⟩
theorem vsl_low {ν' : Nm} {n : Nat} (hl : Lo n ν ν') : ∀ {l : List (SV (stdA fs ov))} {vs : List LV}, SV.ltL n l = true → VSL ν' l vs → VSL ν l vs
  | [], vs, _, hv => hv
  | x :: l, vs, h, hv => by
    obtain ⟨y, r, rfl, h1, h2⟩ := hv
    simp only [SV.ltL, Bool.and_eq_true] at h
    exact ⟨y, r, rfl, vs_low hl h.1 h1, vsl_low hl h.2 h2⟩
end
theorem get_ltT {n : Nat} : ∀ {T : Al (SV (stdA fs ov))}, Al.ltT n T = true → ∀ {t : Nat} {v : SV (stdA fs ov)}, T.get t = some v → v.lt n = true
  | .l, _, t, v, h => by simp [Al.get_l] at h
  | .c k x r, hl, t, v, h => by
    simp only [Al.ltT, Bool.and_eq_true] at hl
    rw [show (Al.c k x r : Al (SV (stdA fs ov))) = Al.set r k x from rfl, Al.get_set] at h
    split at h
    · rw [h] at hl; exact hl.1
    · exact get_ltT hl.2 h
theorem fs_low {ν' : Nm} {n : Nat} {T : Al (SV (stdA fs ov))} {L : Tr LV} (hl : Lo n ν ν') (h : Al.ltT n T = true) (hF : FS ν' T L) : FS ν T L := ⟨fun t v ht => let ⟨lv, a, b⟩ := hF.at_ t v ht; ⟨lv, a, vs_low hl (get_ltT h ht) b⟩⟩
theorem OS.low {ν' : Nm} {n id : Nat} {so : SO (stdA fs ov)} (hl : Lo n ν ν') (hid : id < n) (h : so.lt n = true) (hO : OS ν' H id so) : OS ν H id so := by
  have e := hl id hid
  cases so with
  | row t cs =>
    obtain ⟨r, lcs, a1, a2, a3⟩ := hO
    exact ⟨r, lcs, by rw [← e]; exact a1, a2, vsl_low hl h a3⟩
  | list t ks own hh =>
    obtain ⟨a0, a1, a2⟩ := hO
    refine ⟨a0, a1.imp_right ?_, fun ho r o hr => a2 ho r o (by rw [e]; exact hr)⟩
    rintro ⟨r, o, lo, b1, b2, b3⟩
    exact ⟨r, o, lo, by rw [← e]; exact b1, b2, b3⟩
  | frm g p N T b e' =>
    obtain ⟨r, ps, as, body, d, L, a1, a2, a3, a4⟩ := hO
    exact ⟨r, ps, as, body, d, L, by rw [← e]; exact a1, a2, fs_low hl h a3, a4⟩
/-- What a call leaves. -/
theorem gc_eq {lv : LV} {H' : Hp} {nx' : Nat} {lw : List Nat} (hk : ∀ q, q < nx → q ∉ lw → H'.get q = H.get q) (hup : nx ≤ nx') :
    ∃ o, gc nx H lv H' nx' lw = o ∧ o.v = lv ∧ o.wr = below nx lw ∧ (∀ q, q < nx → o.H.get q = H'.get q) ∧ nx ≤ o.nx ∧ o.nx ≤ nx' ∧ (below nx lw = [] → lv.lt nx = true → o.nx = nx) ∧ (below nx lw = [] → lv.lt nx = false → o.H = H' ∧ o.nx = nx') := by
  refine ⟨_, rfl, ?_⟩
  have hk' : ∀ q, q < nx → q ∉ below nx lw → H'.get q = H.get q := fun q h1 h2 => hk q h1 fun h => h2 (mem_below.2 ⟨h, h1⟩)
  unfold gc
  generalize below nx lw = b at *
  cases b with
  | nil =>
    simp only
    cases hv : lv.lt nx
    · exact ⟨rfl, rfl, fun _ _ => rfl, hup, Nat.le_refl _, fun _ h => (by cases h), fun _ _ => ⟨rfl, rfl⟩⟩
    · exact ⟨rfl, rfl, fun q hq => (hk' q hq (by simp)).symm, Nat.le_refl _, hup, fun _ _ => rfl, fun _ h => by cases h⟩
  | cons x l =>
    simp only
    cases hv : (lv.lt nx && objsBelow nx H' H (x :: l))
    · refine ⟨by first | rfl | trivial, by first | rfl | trivial, fun _ _ => rfl, hup, Nat.le_refl _, fun h => (by cases h), fun h => by cases h⟩
    · simp only [cond_true, Tr.force_eq]
      refine ⟨by first | rfl | trivial, by first | rfl | trivial, fun q hq => ?_, Nat.le_refl _, hup, fun h => (by cases h), fun h => by cases h⟩
      rw [get_back]
      split
      · rfl
      · rename_i hn; exact (hk' q hq hn).symm
theorem sBack_ok {M' : SH (stdA fs ov)} : ∀ {l : List Nat} {M M1 : SH (stdA fs ov)}, sBack snx M' l M = some M1 → (∀ id, id ∉ l → M1.get id = M.get id) ∧ ∀ id ∈ l, ∃ o', M.get id = some o' ∧ o'.mine = true ∧ ∃ o, M'.get id = some o ∧ M1.get id = some o ∧ o.lt snx = true
  | [], M, M1, h => by simp [sBack] at h; subst h; exact ⟨fun _ _ => rfl, fun id h => by cases h⟩
  | x :: l, M, M1, h => by
    simp only [sBack] at h
    cases h0 : M.get x with
    | none => simp [h0] at h
    | some o' =>
      cases h1 : M'.get x with
      | none => simp [h0, h1] at h
      | some o =>
        simp only [h0, h1] at h
        cases hb : (o.lt snx && o'.mine && o.mine)
        · simp [hb] at h
        · simp only [hb, cond_true] at h
          simp only [Bool.and_eq_true] at hb
          obtain ⟨k1, k2⟩ := sBack_ok h
          refine ⟨fun id hid => ?_, fun id hid => ?_⟩
          · rw [k1 id fun e => hid (by simp [e]), Al.get_set_ne _ _ fun e => hid (by simp [e])]
          · by_cases hx : id ∈ l
            · obtain ⟨a, b, c, d, e, f, g⟩ := k2 id hx
              rw [Al.get_set] at b
              split at b
              · rename_i he; subst he; exact ⟨o', h0, hb.1.2, d, e, f, g⟩
              · exact ⟨a, b, c, d, e, f, g⟩
            · have : id = x := by simpa [hx] using hid
              subst this
              exact ⟨o', h0, hb.1.2, o, h1, by rw [k1 id hx, Al.get_set_same], hb.1.1⟩
end Go.Rx

set_option linter.unusedSimpArgs false
set_option linter.unusedVariables false
set_option linter.unusedSectionVars false
namespace Go.Rx
open Go
variable {fs : Fs} {ov : Bool} {ν : Nm} {P : Program} {T : Al (SV (stdA fs ov))} {L : Tr LV} {M : SH (stdA fs ov)} {H : Hp} {snx nx : Nat} {W : Nat → Prop}

theorem hs_back (hM : HS ν M snx H nx) {ν' : Nm} {M' M1 : SH (stdA fs ov)} {snx' nx' n : Nat} {H' H2 : Hp} {lw : List Nat} {wr : List Nat} (hM' : HS ν' M' snx' H' nx') (hlo : Lo snx ν ν') (hnw : ∀ id q o, snx ≤ id → ν' id = some (q, o) → nx ≤ q ∨ ∃ id0 ∈ wr, id0 < snx ∧ ∃ o', ν' id0 = some (q, o'))
    (hw : ∀ q ∈ lw, q < nx → ∃ id ∈ wr, ∃ o, ν' id = some (q, o)) (hk : ∀ q, q < nx → q ∉ lw → H'.get q = H.get q) (hb : sBack snx M' (below snx wr) M = some M1) (h2 : ∀ q, q < nx → H2.get q = H'.get q) (hn : nx ≤ n) {m : Nat} (hm : snx ≤ m) : HS ν M1 m H2 n := by
  obtain ⟨b1, b2⟩ := sBack_ok hb
  have hlt : ∀ {id r o}, ν id = some (r, o) → r < nx := fun h => (hM.lt _ _ _ h).1
  refine ⟨fun id so hg => ?_, fun id r o h => ⟨Nat.lt_of_lt_of_le (hM.lt id r o h).1 hn, Nat.lt_of_lt_of_le (hM.lt id r o h).2 hm⟩, fun id id' r o o' so so' h1 h3 h0 h4 h5 => ?_⟩
  · by_cases hid : id ∈ below snx wr
    · obtain ⟨o', m1, m2, o, m3, m4, m5⟩ := b2 id hid
      rw [hg] at m4; cases m4
      have hidn := (mem_below.1 hid).2
      refine ⟨by omega, ?_⟩
      exact (((hM'.at_ id so m3).2).low hlo hidn m5).same fun r o lo e1 e2 => by rw [h2 r (hlt e1)]; exact e2
    · rw [b1 id hid] at hg
      obtain ⟨hidn, hO⟩ := hM.at_ id so hg
      refine ⟨by omega, hO.same fun r o lo e1 e2 => ?_⟩
      rw [h2 r (hlt e1), hk r (hlt e1) fun hr => ?_]
      · exact e2
      · obtain ⟨id2, k1, hid2, o2, k2⟩ : ∃ id2 ∈ wr, id2 < snx ∧ ∃ o2, ν' id2 = some (r, o2) := by
          obtain ⟨id2, k1, o2, k2⟩ := hw r hr (hlt e1)
          by_cases h : id2 < snx
          · exact ⟨id2, k1, h, o2, k2⟩
          · rcases hnw id2 r o2 (by omega) k2 with h3 | h3
            · have := hlt e1; omega
            · exact h3
        obtain ⟨o', m1, m2, _⟩ := b2 id2 (mem_below.2 ⟨k1, hid2⟩)
        rw [hlo id2 hid2] at k2
        have := hM.inj id2 id r o2 o o' so m1 m2 hg k2 e1
        subst this
        exact hid (mem_below.2 ⟨k1, hid2⟩)
  · obtain ⟨so2, h2⟩ : ∃ so2, M.get id' = some so2 := by
      by_cases hid : id' ∈ below snx wr
      · obtain ⟨o1, m1, m2, _⟩ := b2 id' hid; exact ⟨_, m1⟩
      · rw [b1 id' hid] at h0; exact ⟨_, h0⟩
    by_cases hid : id ∈ below snx wr
    · obtain ⟨o1, m1, m2, _⟩ := b2 id hid
      exact hM.inj id id' r o o' o1 so2 m1 m2 h2 h4 h5
    · rw [b1 id hid] at h1
      exact hM.inj id id' r o o' so so2 h1 h3 h2 h4 h5
theorem rd_rows {ks : List CK} {h : Ll} {lcs news : List LV} {off : Nat} (h1 : Rx.tk (h.length * ks.length) (lcs.drop off) = some news) (h2 : Rows ks h news) : cellsOK lcs off ks h := fun i j k hi hj => by
  obtain ⟨e1, e2⟩ := tk_ok h1
  have hjl : j < ks.length := (List.getElem?_eq_some_iff.1 hj).1
  have hb2 : i * ks.length + j < h.length * ks.length := by
    have : (i + 1) * ks.length ≤ h.length * ks.length := Nat.mul_le_mul_right _ hi
    rw [Nat.add_mul, Nat.one_mul] at this
    omega
  have := h2.ok i j k hi hj
  rw [Nat.zero_add] at this
  subst e1
  rw [List.getElem?_take_of_lt hb2, List.getElem?_drop] at this
  rwa [Nat.add_assoc]
theorem litOf_ok {id off len cap : Nat} {e : TypeId} {ks : List CK} {g : Ll} (h : litOf (A := stdA fs ov) P M id off len cap = some (e, ks, g)) : ∃ t cs, M.get id = some (.row t cs) ∧ rowsOf (A := stdA fs ov) ks len (cs.drop off) = some g ∧ len ≤ cap := by
  unfold litOf at h
  split at h
  · rename_i t cs hg
    split at h
    · rename_i ks' hk
      cases hb : Nat.ble len cap with
      | false => rw [hb] at h; cases h
      | true =>
        rw [hb, cond_true] at h
        split at h
        · rename_i g' hr
          cases h
          exact ⟨_, cs, hg, hr, by simpa using hb⟩
        · cases h
    · cases h
  · cases h
theorem newP_ok {ν' : Nm} : ∀ {l : List (SV (stdA fs ov))} {ls : List LV}, newP snx l = true → VSL ν' l ls → ∃ id r off, snx ≤ id ∧ ν' id = some (r, 0) ∧ LV.p r off ∈ ls
  | [], _, h, _ => by simp [newP] at h
  | x :: l, ls, h, hv => by
    obtain ⟨y, rs, rfl, h1, h2⟩ := hv
    cases x with
    | p id off =>
      simp only [newP, Bool.or_eq_true] at h
      rcases h with h | h
      · obtain ⟨r, a, rfl⟩ := h1
        exact ⟨id, r, off, by simpa using h, a, by simp⟩
      · obtain ⟨id, r, off, a, b, c⟩ := newP_ok h h2
        exact ⟨id, r, off, a, b, List.mem_cons_of_mem _ c⟩
    | _ => simp [newP] at h
theorem ltL_false {n r off : Nat} : ∀ {l : List LV}, LV.p r off ∈ l → n ≤ r → LV.ltL n l = false
  | [], h, _ => by cases h
  | x :: l, h, hn => by
    simp only [LV.ltL]
    rcases List.mem_cons.1 h with rfl | h
    · have : LV.lt n (.p r off) = false := by
        simp only [LV.lt]
        rw [← Bool.not_eq_true]; simp; omega
      rw [this, Bool.false_and]
    · rw [ltL_false h hn, Bool.and_false]
theorem hasN_iff {n : Nat} : ∀ {l : List Nat}, hasN n l = true ↔ n ∈ l
  | [] => by simp [hasN]
  | x :: l => by simp only [hasN, Bool.or_eq_true, beq_iff, List.mem_cons, hasN_iff]
/-- New lists that have got names of their own. -/
structure MvI (ν ν' ν2 : Nm) (snx : Nat) (M' M : SH (stdA fs ov)) (k : Nat) (ids : List Nat) (Ho : Hp) (nxo : Nat) : Prop where
  lo : Lo snx ν ν2
  hs : HS ν2 M k Ho nxo
  le : snx ≤ k
  src : ∀ id q o, snx ≤ id → ν2 id = some (q, o) → ∃ id0 ∈ ids, snx ≤ id0 ∧ ∃ o' so0, ν' id0 = some (q, o') ∧ M'.get id0 = some so0 ∧ ∀ so, M.get id = some so → so.mine = true → so0.mine = true
theorem mv_put (hM : HS ν M snx H nx) {ν' : Nm} {M' : SH (stdA fs ov)} {snx' nx' : Nat} {H' : Hp} (hM' : HS ν' M' snx' H' nx') (strong : ∀ id q o, snx ≤ id → ν' id = some (q, o) → nx ≤ q) {ν2 : Nm} {M1 : SH (stdA fs ov)} {k : Nat} {ids : List Nat} {Ho : Hp} {nxo : Nat} (I : MvI ν ν' ν2 snx M' M1 k ids Ho nxo)
    {id : Nat} (hid : snx ≤ id) (hni : id ∉ ids) {so : SO (stdA fs ov)} {x : Option (Nat × Nat)} (hx : ∀ r o, x = some (r, o) → r < nxo ∧ ∃ o' so0, ν' id = some (r, o') ∧ M'.get id = some so0 ∧ (so.mine = true → so0.mine = true)) (ho : ∀ ν3 : Nm, ν3 k = x → NLe ν2 ν3 → OS ν3 Ho k so) :
    MvI ν ν' (updN ν2 k x) snx M' (M1.set k (some so)) (k + 1) (id :: ids) Ho nxo ∧ NLe ν2 (updN ν2 k x) := by
  have hk : ∀ q o, ν2 k ≠ some (q, o) := fun q o h => by have := (I.hs.lt k q o h).2; omega
  have hle : NLe ν2 (updN ν2 k x) := fun i y hy => by
    rw [updN_ne fun e => by subst e; exact hk y.1 y.2 hy]; exact hy
  have old : ∀ {i y}, i ≠ k → updN ν2 k x i = some y → ν2 i = some y := fun e h => by rwa [updN_ne e] at h
  have hlow : ∀ {i r o}, i < snx → ν2 i = some (r, o) → r < nx := fun hi h => by
    rw [I.lo _ hi] at h; exact (hM.lt _ _ _ h).1
  have hge : ∀ {r o}, x = some (r, o) → nx ≤ r := fun e => by
    obtain ⟨_, o', so0, a, _⟩ := hx _ _ e
    exact strong id _ o' hid a
  have le := I.le
  refine ⟨⟨fun i hi => (updN_ne (by omega)).trans (I.lo i hi), ⟨fun id1 so1 h1 => ?_, fun i r o h1 => ?_, fun id1 id2 r o1 o2 so1 so2 h1 h3 h6 h4 h5 => ?_⟩, by omega, fun i q o h1 h2 => ?_⟩, hle⟩
  · rw [Al.get_set] at h1
    split at h1
    · rename_i e; subst e; cases h1
      exact ⟨by omega, ho _ updN_same hle⟩
    · rename_i e
      obtain ⟨a1, a2⟩ := I.hs.at_ id1 so1 h1
      exact ⟨by omega, a2.sub hle (updN_ne e) fun r o lo a b => b⟩
  · by_cases e : i = k
    · subst e; rw [updN_same] at h1
      exact ⟨(hx _ _ h1).1, by omega⟩
    · have := I.hs.lt i r o (old e h1); omega
  · by_cases a1 : id1 = k
    · by_cases a2 : id2 = k
      · rw [a1, a2]
      · exfalso
        subst a1
        rw [Al.get_set_same] at h1; cases h1
        rw [updN_same] at h4
        have h5 := old a2 h5
        obtain ⟨_, o', so0, b1, b2, b3⟩ := hx _ _ h4
        by_cases hl : id2 < snx
        · have := hlow hl h5; have := hge h4; omega
        · obtain ⟨id0, c1, c2, o3, so3, c3, c4, _⟩ := I.src id2 r o2 (by omega) h5
          have := hM'.inj id id0 r o' o3 so0 so3 b2 (b3 h3) c4 b1 c3
          subst this; exact hni c1
    · rw [Al.get_set_ne _ _ a1] at h1
      replace h4 := old a1 h4
      by_cases a2 : id2 = k
      · exfalso
        subst a2
        rw [updN_same] at h5
        obtain ⟨_, o', so0, b1, b2, b3⟩ := hx _ _ h5
        by_cases hl : id1 < snx
        · have := hlow hl h4; have := hge h5; omega
        · obtain ⟨id0, c1, c2, o3, so3, c3, c4, c5⟩ := I.src id1 r o1 (by omega) h4
          have := hM'.inj id0 id r o3 o' so3 so0 c4 (c5 _ h1 h3) b2 c3 b1
          subst this; exact hni c1
      · rw [Al.get_set_ne _ _ a2] at h6
        exact I.hs.inj id1 id2 r o1 o2 so1 so2 h1 h3 h6 h4 (old a2 h5)
  · by_cases e : i = k
    · subst e
      rw [updN_same] at h2
      obtain ⟨_, o', so0, b1, b2, b3⟩ := hx _ _ h2
      exact ⟨id, by simp, hid, o', so0, b1, b2, fun so1 h3 h4 => by rw [Al.get_set_same] at h3; cases h3; exact b3 h4⟩
    · obtain ⟨id0, c1, c2, o3, so3, c3, c4, c5⟩ := I.src i q o h1 (old e h2)
      exact ⟨id0, List.mem_cons_of_mem _ c1, c2, o3, so3, c3, c4, fun so1 h3 h4 => c5 so1 (by rwa [Al.get_set_ne _ _ e] at h3) h4⟩
theorem blt_no {a b : Nat} (h : Nat.blt a b = false) : b ≤ a := by
  rcases Nat.lt_or_ge a b with h1 | h1
  · have e : Nat.blt a b = true := by simpa using h1
    rw [e] at h; cases h
  · exact h1
mutual
theorem mvV_ok (hM : HS ν M snx H nx) {ν' : Nm} {M' : SH (stdA fs ov)} {snx' nx' : Nat} {H' : Hp} (hM' : HS ν' M' snx' H' nx') (hlo : Lo snx ν ν') (strong : ∀ id q o, snx ≤ id → ν' id = some (q, o) → nx ≤ q) {Ho : Hp} {nxo : Nat} : ∀ {v : SV (stdA fs ov)} {lv : LV} {M1 : SH (stdA fs ov)} {k : Nat} {ids : List Nat} {ν2 : Nm} {K : SV (stdA fs ov) → SH (stdA fs ov) → Nat → List Nat → (stdA fs ov).R},
    mvV P M' snx v M1 k ids K → VS ν' v lv → MvI ν ν' ν2 snx M' M1 k ids Ho nxo → ((Ho = H' ∧ nxo = nx') ∨ lv.lt nx = true) → ∃ ν3 v2 M2 k2 ids2, MvI ν ν' ν3 snx M' M2 k2 ids2 Ho nxo ∧ NLe ν2 ν3 ∧ VS ν3 v2 lv ∧ K v2 M2 k2 ids2
  | .ls own id n, lv, M1, k, ids, ν2, K, h, hv, I, hc => by
    simp only [mvV] at h
    cases hb : Nat.blt id snx with
    | true =>
      rw [hb] at h
      exact ⟨ν2, _, M1, k, ids, I, fun _ _ h => h, vs_low (n := snx) (fun i hi => (hlo i hi).trans (I.lo i hi).symm) (x := .ls own id n) hb hv, h⟩
    | false =>
      rw [hb, cond_false] at h
      have hid := blt_no hb
      cases hi : hasN id ids with
      | true => rw [hi] at h; exact h.elim
      | false =>
        rw [hi, cond_false] at h
        have hni : id ∉ ids := fun hc => by rw [hasN_iff.2 hc] at hi; cases hi
        split at h
        · rename_i t ks own' hh hg
          cases ho : own && !own' with
          | true => rw [ho] at h; exact h.elim
          | false =>
            rw [ho, cond_false] at h
            simp only [Al.force_eq] at h
            obtain ⟨hn, h⟩ := h
            have hn : n = (hh.length : Int) := hn
            have hO := (hM'.at_ id _ hg).2
            obtain ⟨hn0, hv1⟩ := hv
            rcases hv1 with ⟨hz, hz0⟩ | ⟨r, off, hr, hcase⟩
            · obtain ⟨I2, hle⟩ := mv_put hM hM' strong I hid hni (so := .list t ks own' hh) (x := none) (fun _ _ e => by cases e) (fun ν3 e _ => ⟨hO.1, .inl (by have : (hh.length : Int) = 0 := hn.symm.trans hz0; omega), fun _ r o h => by rw [e] at h; cases h⟩)
              exact ⟨_, .ls own k n, _, _, _, I2, hle, ⟨hn0, .inl ⟨hz, hz0⟩⟩, h⟩
            · have hrn := strong id r off hid hr
              have hlt : ¬ lv.lt nx = true := by
                rcases hcase with ⟨_, rfl⟩ | ⟨_, _, _, rfl⟩
                all_goals
                  simp only [LV.lt]
                  simp; omega
              obtain ⟨rfl, rfl⟩ := hc.resolve_right hlt
              obtain ⟨I2, hle⟩ := mv_put hM hM' strong I hid hni (so := .list t ks own' hh) (x := some (r, off)) (fun r1 o1 e => by cases e; exact ⟨(hM'.lt id r off hr).1, off, _, hr, hg, fun h => h⟩) (fun ν3 e _ => by
                obtain ⟨q1, q2, q3⟩ := hO
                rw [hr] at q2 q3
                exact ⟨q1, by rw [e]; exact q2, by rw [e]; exact q3⟩)
              exact ⟨_, .ls own k n, _, _, _, I2, hle, ⟨hn0, .inr ⟨r, off, updN_same, hcase⟩⟩, h⟩
        · exact h.elim
  | .sl id off len cap, lv, M1, k, ids, ν2, K, h, hv, I, hc => by
    simp only [mvV] at h
    cases hb : Nat.blt id snx with
    | true =>
      rw [hb] at h
      exact ⟨ν2, _, M1, k, ids, I, fun _ _ h => h, vs_low (n := snx) (fun i hi => (hlo i hi).trans (I.lo i hi).symm) (x := .sl id off len cap) hb hv, h⟩
    | false =>
      rw [hb, cond_false] at h
      have hid := blt_no hb
      cases hi : hasN id ids with
      | true => rw [hi] at h; exact h.elim
      | false =>
        rw [hi, cond_false] at h
        have hni : id ∉ ids := fun hc => by rw [hasN_iff.2 hc] at hi; cases hi
        split at h
        · rename_i e ks g hg
          simp only [Al.force_eq] at h
          obtain ⟨t, cs, q1, q2, q3⟩ := litOf_ok hg
          obtain ⟨r, hr, rfl⟩ := hv
          have hrn := strong id r 0 hid hr
          have hlt : ¬ LV.lt nx (.sl r off len cap) = true := by
            simp only [LV.lt]; simp; omega
          obtain ⟨rfl, rfl⟩ := hc.resolve_right hlt
          obtain ⟨_, r', lcs, hr', hl, hcs⟩ := hM'.at_ id _ q1
          rw [hr] at hr'; cases hr'
          obtain ⟨u1, news, u2, u3⟩ := rowsOf_ok q2 (hcs.drop off)
          obtain ⟨I2, hle⟩ := mv_put hM hM' strong I hid hni (so := .list e ks false g) (x := some (r, off)) (fun r1 o1 e => by cases e; exact ⟨(hM'.lt id r 0 hr).1, 0, _, hr, q1, fun h => by cases h⟩) (fun ν3 e3 _ => ⟨u3.rows, .inr ⟨r, off, _, e3, hl, .inl ⟨lcs, rfl, rd_rows (by rw [u1]; exact u2) u3⟩⟩, fun h => by cases h⟩)
          exact ⟨_, .ls false k (g.length : Int), _, _, _, I2, hle, ⟨Int.natCast_nonneg _, .inr ⟨r, off, updN_same, .inr ⟨rfl, cap, by simp; omega, by simp [u1]⟩⟩⟩, h⟩
        · exact h.elim
  | .agg l, lv, M1, k, ids, ν2, K, h, hv, I, hc => by
    simp only [mvV] at h
    obtain ⟨r, rfl, hr⟩ := hv
    obtain ⟨ν3, l2, M2, k2, ids2, a1, a2, a3, a4⟩ := mvL_ok hM hM' hlo strong h hr I hc
    exact ⟨ν3, .agg l2, M2, k2, ids2, a1, a2, ⟨r, rfl, a3⟩, a4⟩
  | .tup l, lv, M1, k, ids, ν2, K, h, hv, I, hc => by
    simp only [mvV] at h
    obtain ⟨r, rfl, hr⟩ := hv
    obtain ⟨ν3, l2, M2, k2, ids2, a1, a2, a3, a4⟩ := mvL_ok hM hM' hlo strong h hr I hc
    exact ⟨ν3, .tup l2, M2, k2, ids2, a1, a2, ⟨r, rfl, a3⟩, a4⟩
  | .p id off, lv, M1, k, ids, ν2, K, h, hv, I, hc => by
    simp only [mvV] at h
    cases hb : Nat.blt id snx with
    | true =>
      rw [hb] at h
      exact ⟨ν2, _, M1, k, ids, I, fun _ _ h => h, vs_low (n := snx) (fun i hi => (hlo i hi).trans (I.lo i hi).symm) (x := .p id off) hb hv, h⟩
    | false => rw [hb] at h; exact h.elim
  | .pe id z i j, lv, M1, k, ids, ν2, K, h, hv, I, hc => by
    simp only [mvV] at h
    cases hb : Nat.blt id snx with
    | true =>
      rw [hb] at h
      exact ⟨ν2, _, M1, k, ids, I, fun _ _ h => h, vs_low (n := snx) (fun i hi => (hlo i hi).trans (I.lo i hi).symm) (x := .pe id z i j) hb hv, h⟩
    | false => rw [hb] at h; exact h.elim
  | .yld id, lv, M1, k, ids, ν2, K, h, hv, I, hc => by
    simp only [mvV] at h
    cases hb : Nat.blt id snx with
    | true =>
      rw [hb] at h
      exact ⟨ν2, _, M1, k, ids, I, fun _ _ h => h, vs_low (n := snx) (fun i hi => (hlo i hi).trans (I.lo i hi).symm) (x := .yld id) hb hv, h⟩
    | false => rw [hb] at h; exact h.elim
  | .fn f a c, lv, M1, k, ids, ν2, K, h, hv, I, hc => by
    simp only [mvV] at h
    cases hb : SV.ltL snx a && SV.ltL snx c with
    | true =>
      rw [hb] at h
      exact ⟨ν2, _, M1, k, ids, I, fun _ _ h => h, vs_low (n := snx) (fun i hi => (hlo i hi).trans (I.lo i hi).symm) (x := .fn f a c) hb hv, h⟩
    | false => rw [hb] at h; exact h.elim
  | .b x, lv, M1, k, ids, ν2, K, h, hv, I, hc => ⟨ν2, .b x, M1, k, ids, I, fun _ _ h => h, hv, h⟩
  | .i q x, lv, M1, k, ids, ν2, K, h, hv, I, hc => ⟨ν2, .i q x, M1, k, ids, I, fun _ _ h => h, hv, h⟩
  | .s x, lv, M1, k, ids, ν2, K, h, hv, I, hc => ⟨ν2, .s x, M1, k, ids, I, fun _ _ h => h, hv, h⟩
  | .nilp, lv, M1, k, ids, ν2, K, h, hv, I, hc => ⟨ν2, .nilp, M1, k, ids, I, fun _ _ h => h, hv, h⟩
  | .nils, lv, M1, k, ids, ν2, K, h, hv, I, hc => ⟨ν2, .nils, M1, k, ids, I, fun _ _ h => h, hv, h⟩
  | .nilf, lv, M1, k, ids, ν2, K, h, hv, I, hc => ⟨ν2, .nilf, M1, k, ids, I, fun _ _ h => h, hv, h⟩
  | .nili, lv, M1, k, ids, ν2, K, h, hv, I, hc => ⟨ν2, .nili, M1, k, ids, I, fun _ _ h => h, hv, h⟩
theorem mvL_ok (hM : HS ν M snx H nx) {ν' : Nm} {M' : SH (stdA fs ov)} {snx' nx' : Nat} {H' : Hp} (hM' : HS ν' M' snx' H' nx') (hlo : Lo snx ν ν') (strong : ∀ id q o, snx ≤ id → ν' id = some (q, o) → nx ≤ q) {Ho : Hp} {nxo : Nat} : ∀ {v : List (SV (stdA fs ov))} {lv : List LV} {M1 : SH (stdA fs ov)} {k : Nat} {ids : List Nat} {ν2 : Nm} {K : List (SV (stdA fs ov)) → SH (stdA fs ov) → Nat → List Nat → (stdA fs ov).R},
    mvL P M' snx v M1 k ids K → VSL ν' v lv → MvI ν ν' ν2 snx M' M1 k ids Ho nxo → ((Ho = H' ∧ nxo = nx') ∨ LV.ltL nx lv = true) → ∃ ν3 v2 M2 k2 ids2, MvI ν ν' ν3 snx M' M2 k2 ids2 Ho nxo ∧ NLe ν2 ν3 ∧ VSL ν3 v2 lv ∧ K v2 M2 k2 ids2
  | [], lv, M1, k, ids, ν2, K, h, hv, I, hc => ⟨ν2, [], M1, k, ids, I, fun _ _ h => h, hv, h⟩
  | v :: l, lv, M1, k, ids, ν2, K, h, hv, I, hc => by
    simp only [mvL] at h
    obtain ⟨y, r, rfl, h1, h2⟩ := hv
    obtain ⟨ν3, v2, M2, k2, ids2, a1, a2, a3, a4⟩ := mvV_ok hM hM' hlo strong h h1 I (hc.imp_right fun h => by
      simp only [LV.ltL, Bool.and_eq_true] at h; exact h.1)
    obtain ⟨ν4, l2, M3, k3, ids3, b1, b2, b3, b4⟩ := mvL_ok hM hM' hlo strong a4 h2 a1 (hc.imp_right fun h => by
      simp only [LV.ltL, Bool.and_eq_true] at h; exact h.2)
    exact ⟨ν4, v2 :: l2, M3, k3, ids3, b1, fun i x h => b2 _ _ (a2 _ _ h), ⟨_, _, rfl, a3.mono b2, b3⟩, b4⟩
end
theorem sLeave_ok (hM : HS ν M snx H nx) {ν' : Nm} {M' : SH (stdA fs ov)} {snx' nx' : Nat} {H' : Hp} {lw : List Nat} {wr : List Nat} {v : SV (stdA fs ov)} {lv : LV} {K : KS (stdA fs ov)} (hM' : HS ν' M' snx' H' nx') (hlo : Lo snx ν ν') (hnw : ∀ id q o, snx ≤ id → ν' id = some (q, o) → nx ≤ q ∨ ∃ id0 ∈ wr, id0 < snx ∧ ∃ o', ν' id0 = some (q, o')) (hup : nx ≤ nx')
    (hw : ∀ q ∈ lw, q < nx → ∃ id ∈ wr, ∃ o, ν' id = some (q, o)) (hk : ∀ q, q < nx → q ∉ lw → H'.get q = H.get q) (hhas : ∀ q ∈ lw, nx ≤ q ∨ ∃ o, H.get q = some o) (hv : VS ν' v lv) (h : sLeave P snx M v M' snx' wr K) :
    ∃ ν2 v2 M2 snx2 wr2, Got ν snx H nx ν2 v2 M2 snx2 wr2 (gc nx H lv H' nx' lw) ∧ K v2 M2 snx2 wr2 ∧ (gc nx H lv H' nx' lw).nx ≤ nx' := by
  obtain ⟨o, ho, g1, g2, g3, g4, g5, g6, g7⟩ := gc_eq (lv := lv) (nx' := nx') hk hup
  rw [ho]
  have hw' : ∀ q ∈ below nx lw, ∃ id ∈ below snx wr, ∃ o, ν id = some (q, o) := fun q hq => by
    obtain ⟨hq1, hq2⟩ := mem_below.1 hq
    obtain ⟨id, k1, hid, o, k2⟩ : ∃ id ∈ wr, id < snx ∧ ∃ o, ν' id = some (q, o) := by
      obtain ⟨id, k1, o, k2⟩ := hw q hq1 hq2
      by_cases h : id < snx
      · exact ⟨id, k1, h, o, k2⟩
      · rcases hnw id q o (by omega) k2 with h3 | h3
        · omega
        · exact h3
    exact ⟨id, mem_below.2 ⟨k1, hid⟩, o, by rw [← hlo id hid]; exact k2⟩
  have hhas' : ∀ q ∈ o.wr, nx ≤ q ∨ ∃ o, H.get q = some o := fun q hq => hhas q (by rw [g2] at hq; exact (mem_below.1 hq).1)
  have hkeep : ∀ q, q < nx → q ∉ o.wr → o.H.get q = H.get q := fun q hq hn => by
    rw [g3 q hq]
    exact hk q hq fun h => hn (by rw [g2]; exact mem_below.2 ⟨h, hq⟩)
  have hnw0 : ∀ id q o, snx ≤ id → ν id = some (q, o) → nx ≤ q := fun id q o h1 h2 => by have := (hM.lt id q o h2).2; omega
  simp only [sLeave] at h
  cases hb : sBack snx M' (below snx wr) M with
  | none => simp only [hb] at h <;> exact h.elim
  | some M1 =>
    simp only [hb] at h
    cases hvl : v.lt snx with
    | true =>
      simp only [hvl, cond_true, Al.force_eq] at h
      have hlv : lv.lt nx = true := vs_lt (n := snx) (fun id r o h1 h2 => by rw [hlo id h1] at h2; exact (hM.lt id r o h2).1) hvl hv
      have hv2 : VS ν v o.v := by rw [g1]; exact vs_low hlo hvl hv
      cases hwr : below snx wr with
      | nil =>
        rw [hwr] at h hw'
        have hb0 : below nx lw = [] := by
          cases hq : below nx lw with
          | nil => rfl
          | cons q l => obtain ⟨id, hid, _⟩ := hw' q (by rw [hq]; simp); cases hid
        have e := g6 hb0 hlv
        refine ⟨ν, v, M1, snx, [], ⟨fun _ _ => rfl, hnw0, g4, Nat.le_refl _, hs_back hM hM' hlo hnw hw hk hb g3 g4 (Nat.le_refl _), hv2, fun q hq => ?_, hkeep, hhas', fun h1 => absurd e h1⟩, h, g5⟩
        rw [g2, hb0] at hq; cases hq
      | cons x l =>
        rw [hwr] at h hw'
        refine ⟨ν, v, M1, snx + 1, x :: l, ⟨fun _ _ => rfl, hnw0, g4, by omega, hs_back hM hM' hlo hnw hw hk hb g3 g4 (by omega), hv2, fun q hq => ?_, hkeep, hhas', fun _ => by omega⟩, h, g5⟩
        rw [g2] at hq; exact hw' q hq
    | false =>
      simp only [hvl, cond_false] at h
      -- a slice that is new
      have key : ∀ {id : Nat} {n : Int} {lv1 : LV} {t : TypeId} {ks : List CK} {hh : Ll}, below snx wr = [] → M'.get id = some (.list t ks true hh) → n = hh.length → LSr (ν' id) true n lv1 → SV.lt (A := stdA fs ov) snx (.ls true id n) = false → lv.lt nx = lv1.lt nx →
          ∃ ν2, Lo snx ν ν2 ∧ (∀ id q o, snx ≤ id → ν2 id = some (q, o) → nx ≤ q) ∧ HS ν2 (M1.set snx (some (.list t ks true hh))) (snx + 1) o.H o.nx ∧ LSr (ν2 snx) true n lv1 ∧ o.wr = [] := by
        intro id n lv1 t ks hh hwr hg hn hls hid hlt
        have hid : snx ≤ id := by
          rcases Nat.lt_or_ge id snx with h | h
          · have e : Nat.blt id snx = true := by simpa using h
            rw [show SV.lt (A := stdA fs ov) snx (.ls true id n) = Nat.blt id snx from rfl, e] at hid; cases hid
          · exact h
        have hb0 : below nx lw = [] := by
          cases hq : below nx lw with
          | nil => rfl
          | cons q l => obtain ⟨i, hi, _⟩ := hw' q (by rw [hq]; simp); rw [hwr] at hi; cases hi
        have hO := (hM'.at_ id _ hg).2
        have h0 := hs_back hM hM' hlo hnw hw hk hb g3 g4 (show snx ≤ snx + 1 by omega)
        have hns : ∀ q o, ν snx ≠ some (q, o) := fun q o h => by have := (hM.lt snx q o h).2; omega
        obtain ⟨hn0, ⟨rfl, hz⟩ | ⟨r, off, hr, ⟨rfl, rfl⟩ | ⟨hf, _⟩⟩⟩ := hls
        · -- nil
          have hnone : ν snx = none := by
            cases hq : ν snx with
            | none => rfl
            | some x => exact absurd hq (hns x.1 x.2)
          refine ⟨ν, fun _ _ => rfl, hnw0, ⟨fun id1 so h1 => ?_, h0.lt, fun id1 id2 r1 o1 o2 so so2 h1 h3 h6 h4 h5 => ?_⟩, ⟨hn0, .inl ⟨rfl, hz⟩⟩, by rw [g2, hb0]⟩
          · rw [Al.get_set] at h1
            split at h1
            · rename_i e; subst e; cases h1
              exact ⟨by omega, hO.1, .inl (by omega), fun _ r o h => absurd h (hns r o)⟩
            · exact h0.at_ id1 so h1
          · rw [Al.get_set] at h1
            split at h1
            · rename_i e; subst e; exact absurd h4 (hns r1 o1)
            · rw [Al.get_set_ne _ _ fun e => by subst e; exact hns r1 o2 h5] at h6
              exact h0.inj id1 id2 r1 o1 o2 so so2 h1 h3 h6 h4 h5
        · have hrn : nx ≤ r := (hnw id r 0 hid hr).resolve_right fun ⟨id0, a1, a2, _⟩ => by
            have a3 := mem_below.2 ⟨a1, a2⟩
            rw [hwr] at a3; cases a3
          have hlt' : lv.lt nx = false := by
            rw [hlt]
            simp only [LV.lt]
            rw [← Bool.not_eq_true]; simp; omega
          obtain ⟨e1, e2⟩ := g7 hb0 hlt'
          have old : ∀ {i q o}, i ≠ snx → updN ν snx (some (r, 0)) i = some (q, o) → ν i = some (q, o) := fun e h => by rwa [updN_ne e] at h
          refine ⟨updN ν snx (some (r, 0)), fun i hi => updN_ne (by omega), fun i q o h1 h2 => ?_, ⟨fun id1 so h1 => ?_, fun id1 q o h1 => ?_, fun id1 id2 r1 o1 o2 so so2 h1 h3 h6 h4 h5 => ?_⟩, ⟨hn0, .inr ⟨r, 0, updN_same, .inl ⟨rfl, rfl⟩⟩⟩, by rw [g2, hb0]⟩
          · by_cases e : i = snx
            · subst e; rw [updN_same] at h2; cases h2; exact hrn
            · exact hnw0 i q o h1 (old e h2)
          · rw [Al.get_set] at h1
            split at h1
            · rename_i e; subst e; cases h1
              refine ⟨by omega, hO.1, hO.2.1.imp_right ?_, fun _ q o hq => ?_⟩
              · rintro ⟨r', o', lo, a, b, c⟩
                rw [hr] at a; cases a
                exact ⟨r, 0, lo, updN_same, by rw [e1]; exact b, c⟩
              · rw [updN_same] at hq; cases hq
                obtain ⟨a, lcs, b, c⟩ := hO.2.2 rfl r 0 hr
                exact ⟨rfl, lcs, by rw [e1]; exact b, c⟩
            · rename_i e
              obtain ⟨k1, k2⟩ := h0.at_ id1 so h1
              refine ⟨by omega, k2.sub (fun i x hx => ?_) (updN_ne e) fun r o lo a b => b⟩
              rw [updN_ne fun e => by subst e; exact hns x.1 x.2 hx]; exact hx
          · by_cases e : id1 = snx
            · subst e; rw [updN_same] at h1; cases h1
              exact ⟨by rw [e2]; exact (hM'.lt id _ 0 hr).1, by omega⟩
            · have := h0.lt id1 q o (old e h1); exact this
          · by_cases a1 : id1 = snx
            · by_cases a2 : id2 = snx
              · rw [a1, a2]
              · rw [a1, updN_same] at h4; cases h4
                have := (hM.lt id2 r o2 (old a2 h5)).1; omega
            · rw [Al.get_set_ne _ _ a1] at h1
              by_cases a2 : id2 = snx
              · rw [a2, updN_same] at h5; cases h5
                have := (hM.lt id1 r o1 (old a1 h4)).1; omega
              · rw [Al.get_set_ne _ _ a2] at h6
                exact h0.inj id1 id2 r1 o1 o2 so so2 h1 h3 h6 (old a1 h4) (old a2 h5)
        · cases hf
      have key2 : ∀ {id off len cap : Nat} {lv1 : LV} {e : TypeId} {ks : List CK} {g : Ll}, below snx wr = [] → litOf (A := stdA fs ov) P M' id off len cap = some (e, ks, g) → VS ν' (.sl id off len cap : SV (stdA fs ov)) lv1 → SV.lt (A := stdA fs ov) snx (.sl id off len cap) = false → lv.lt nx = lv1.lt nx →
          ∃ ν2, Lo snx ν ν2 ∧ (∀ id q o, snx ≤ id → ν2 id = some (q, o) → nx ≤ q) ∧ HS ν2 (M1.set snx (some (.list e ks false g))) (snx + 1) o.H o.nx ∧ LSr (ν2 snx) false (g.length : Int) lv1 ∧ o.wr = [] := by
        intro id off len cap lv1 e ks g hwr hg hls hid hlt
        obtain ⟨t, cs, q1, q2, q3⟩ := litOf_ok hg
        have hid : snx ≤ id := by
          rcases Nat.lt_or_ge id snx with h | h
          · have e : Nat.blt id snx = true := by simpa using h
            rw [show SV.lt (A := stdA fs ov) snx (.sl id off len cap) = Nat.blt id snx from rfl, e] at hid; cases hid
          · exact h
        have hb0 : below nx lw = [] := by
          cases hq : below nx lw with
          | nil => rfl
          | cons q l => obtain ⟨i, hi, _⟩ := hw' q (by rw [hq]; simp); rw [hwr] at hi; cases hi
        have h0 := hs_back hM hM' hlo hnw hw hk hb g3 g4 (show snx ≤ snx + 1 by omega)
        have hns : ∀ q o, ν snx ≠ some (q, o) := fun q o h => by have := (hM.lt snx q o h).2; omega
        obtain ⟨r, hr, rfl⟩ := hls
        obtain ⟨_, r', lcs, hr', hl, hcs⟩ := hM'.at_ id _ q1
        rw [hr] at hr'; cases hr'
        obtain ⟨u1, news, u2, u3⟩ := rowsOf_ok q2 (hcs.drop off)
        have hrn : nx ≤ r := (hnw id r 0 hid hr).resolve_right fun ⟨id0, a1, a2, _⟩ => by
          have a3 := mem_below.2 ⟨a1, a2⟩
          rw [hwr] at a3; cases a3
        have hlt' : lv.lt nx = false := by
          rw [hlt]
          simp only [LV.lt]
          rw [← Bool.not_eq_true]; simp; omega
        obtain ⟨e1, e2⟩ := g7 hb0 hlt'
        have old : ∀ {i q o}, i ≠ snx → updN ν snx (some (r, off)) i = some (q, o) → ν i = some (q, o) := fun e h => by rwa [updN_ne e] at h
        refine ⟨updN ν snx (some (r, off)), fun i hi => updN_ne (by omega), fun i q o h1 h2 => ?_, ⟨fun id1 so h1 => ?_, fun id1 q o h1 => ?_, fun id1 id2 r1 o1 o2 so so2 h1 h3 h6 h4 h5 => ?_⟩, ⟨Int.natCast_nonneg _, .inr ⟨r, off, updN_same, .inr ⟨rfl, cap, by simp; omega, by simp [u1]⟩⟩⟩, by rw [g2, hb0]⟩
        · by_cases e : i = snx
          · subst e; rw [updN_same] at h2; cases h2; exact hrn
          · exact hnw0 i q o h1 (old e h2)
        · rw [Al.get_set] at h1
          split at h1
          · rename_i e; subst e; cases h1
            exact ⟨by omega, u3.rows, .inr ⟨r, off, _, updN_same, by rw [e1]; exact hl, .inl ⟨lcs, rfl, rd_rows (by rw [u1]; exact u2) u3⟩⟩, fun h => by cases h⟩
          · rename_i e
            obtain ⟨k1, k2⟩ := h0.at_ id1 so h1
            refine ⟨by omega, k2.sub (fun i x hx => ?_) (updN_ne e) fun r o lo a b => b⟩
            rw [updN_ne fun e => by subst e; exact hns x.1 x.2 hx]; exact hx
        · by_cases e : id1 = snx
          · subst e; rw [updN_same] at h1; cases h1
            exact ⟨by rw [e2]; exact (hM'.lt id _ 0 hr).1, by omega⟩
          · have := h0.lt id1 q o (old e h1); exact this
        · by_cases a1 : id1 = snx
          · rw [a1, Al.get_set_same] at h1; cases h1; cases h3
          · rw [Al.get_set_ne _ _ a1] at h1
            by_cases a2 : id2 = snx
            · rw [a2, updN_same] at h5; cases h5
              have := (hM.lt id1 r o1 (old a1 h4)).1; omega
            · rw [Al.get_set_ne _ _ a2] at h6
              exact h0.inj id1 id2 r1 o1 o2 so so2 h1 h3 h6 (old a1 h4) (old a2 h5)
      split at h
      · rename_i id n hwr
        split at h
        · rename_i t ks hh hg
          obtain ⟨hn, h⟩ := h
          simp only [Al.force_eq] at h
          obtain ⟨ν2, k1, k2, k3, k4, k5⟩ := key hwr hg hn hv hvl rfl
          exact ⟨ν2, _, _, _, _, ⟨k1, k2, g4, by omega, k3, by rw [g1]; exact k4, fun q hq => (by rw [k5] at hq; cases hq), hkeep, hhas', fun _ => by omega⟩, h, g5⟩
        · exact h.elim
      · rename_i id n hwr
        split at h
        · rename_i t ks hh hg
          obtain ⟨hn, h⟩ := h
          simp only [Al.force_eq] at h
          obtain ⟨l', rfl, lv1, r', rfl, hls, hr'⟩ := hv
          obtain rfl := hr'
          obtain ⟨ν2, k1, k2, k3, k4, k5⟩ := key hwr hg hn hls (by simpa [SV.lt, SV.ltL] using hvl) (by simp [LV.lt, LV.ltL])
          exact ⟨ν2, _, _, _, _, ⟨k1, k2, g4, by omega, k3, by rw [g1]; exact ⟨_, rfl, _, _, rfl, k4, rfl⟩, fun q hq => (by rw [k5] at hq; cases hq), hkeep, hhas', fun _ => by omega⟩, h, g5⟩
        · exact h.elim
      · rename_i f cap hwr
        cases hp : newP snx cap with
        | false => rw [hp] at h; exact h.elim
        | true =>
          rw [hp] at h
          have h : K (.fn f [] cap) M' snx' [] := h
          obtain ⟨a', c', rfl, ha', hc'⟩ := hv
          obtain rfl := ha'
          obtain ⟨id, r, off, m1, m2, m3⟩ := newP_ok hp hc'
          have hb0 : below nx lw = [] := by
            cases hq : below nx lw with
            | nil => rfl
            | cons q l => obtain ⟨id, h1, _⟩ := hw' q (by rw [hq]; simp); rw [hwr] at h1; cases h1
          have strong : ∀ (id q o : Nat), snx ≤ id → ν' id = some (q, o) → nx ≤ q := fun id q o h1 h2 => (hnw id q o h1 h2).resolve_right fun ⟨id0, a1, a2, _⟩ => by
            have a3 := mem_below.2 ⟨a1, a2⟩
            rw [hwr] at a3; cases a3
          have hlt' : LV.lt nx (.fn (.func f) [] c') = false := by
            show (LV.ltL nx [] && LV.ltL nx c') = false
            rw [ltL_false m3 (strong id r 0 m1 m2), Bool.and_false]
          obtain ⟨e1, e2⟩ := g7 hb0 hlt'
          have hid := (hM'.lt id r 0 m2).2
          exact ⟨ν', _, M', snx', [], ⟨hlo, strong, g4, by omega, by rw [e1, e2]; exact hM', by rw [g1]; exact ⟨[], c', rfl, rfl, hc'⟩, fun q hq => (by rw [g2, hb0] at hq; cases hq), hkeep, hhas', fun _ => by omega⟩, h, g5⟩
      · rename_i id off len cap hwr
        split at h
        · rename_i e ks g hg
          simp only [Al.force_eq] at h
          obtain ⟨ν2, k1, k2, k3, k4, k5⟩ := key2 hwr hg hv hvl rfl
          exact ⟨ν2, _, _, _, _, ⟨k1, k2, g4, by omega, k3, by rw [g1]; exact k4, fun q hq => (by rw [k5] at hq; cases hq), hkeep, hhas', fun _ => by omega⟩, h, g5⟩
        · exact h.elim
      · rename_i id off len cap hwr
        split at h
        · rename_i e ks g hg
          simp only [Al.force_eq] at h
          obtain ⟨l', rfl, lv1, r', rfl, hls, hr'⟩ := hv
          obtain rfl := hr'
          obtain ⟨ν2, k1, k2, k3, k4, k5⟩ := key2 hwr hg hls (by simpa [SV.lt, SV.ltL] using hvl) (by simp [LV.lt, LV.ltL])
          exact ⟨ν2, _, _, _, _, ⟨k1, k2, g4, by omega, k3, by rw [g1]; exact ⟨_, rfl, _, _, rfl, k4, rfl⟩, fun q hq => (by rw [k5] at hq; cases hq), hkeep, hhas', fun _ => by omega⟩, h, g5⟩
        · exact h.elim
      · rename_i hwr _ _ _ _ _
        have hb0 : below nx lw = [] := by
          cases hq : below nx lw with
          | nil => rfl
          | cons q l => obtain ⟨id, h1, _⟩ := hw' q (by rw [hq]; simp); rw [hwr] at h1; cases h1
        have strong : ∀ (id q o : Nat), snx ≤ id → ν' id = some (q, o) → nx ≤ q := fun id q o h1 h2 => (hnw id q o h1 h2).resolve_right fun ⟨id0, a1, a2, _⟩ => by
          have a3 := mem_below.2 ⟨a1, a2⟩
          rw [hwr] at a3; cases a3
        have hns : ∀ i q o, snx ≤ i → ν i ≠ some (q, o) := fun i q o h1 h => by have := (hM.lt i q o h).2; omega
        have I0 : MvI ν ν' ν snx M' M1 snx [] o.H o.nx := ⟨fun _ _ => rfl, hs_back hM hM' hlo hnw hw hk hb g3 g4 (Nat.le_refl _), Nat.le_refl _, fun id q o h1 h2 => absurd h2 (hns id q o h1)⟩
        obtain ⟨ν3, v2, M2, k2, ids2, a1, a2, a3, a4⟩ := mvV_ok hM hM' hlo strong h hv I0 (by
          cases hlt : lv.lt nx with
          | true => exact .inr rfl
          | false => obtain ⟨e1, e2⟩ := g7 hb0 hlt; exact .inl ⟨e1, e2⟩)
        have hle := a1.le
        refine ⟨ν3, v2, M2, k2 + 1, [], ⟨a1.lo, fun id q o h1 h2 => ?_, g4, by omega, ⟨fun id so h1 => ?_, fun id r o h1 => ?_, a1.hs.inj⟩, by rw [g1]; exact a3, fun q hq => (by rw [g2, hb0] at hq; cases hq), hkeep, hhas', fun _ => by omega⟩, a4, g5⟩
        · obtain ⟨id0, _, c2, o3, so3, c3, _⟩ := a1.src id q o h1 h2
          exact strong id0 q o3 c2 c3
        · have := a1.hs.at_ id so h1; exact ⟨by omega, this.2⟩
        · have := a1.hs.lt id r o h1; omega
      · exact h.elim
theorem sArgs_ok : ∀ {l : List (SV (stdA fs ov))} {ll : List LV} {k : Nat} {T : Al (SV (stdA fs ov))} {L : Tr LV}, VSL ν l ll → FS ν T L → FS ν (sArgs k l T) (ofArgs k ll L)
  | [], ll, k, T, L, h, hF => by rw [show ll = [] from h]; exact hF
  | x :: l, ll, k, T, L, h, hF => by
    obtain ⟨y, r, rfl, h1, h2⟩ := h
    simp only [sArgs, ofArgs, Al.force_eq, Tr.force_eq]
    refine sArgs_ok h2 ⟨fun t u hu => ?_⟩
    rw [Al.get_set] at hu; rw [Tr.get_set]
    split at hu
    · rename_i e; rw [if_pos e]; cases hu; exact ⟨y, rfl, h1⟩
    · rename_i e; rw [if_neg e]; exact hF.at_ t u hu
theorem sRes_ok (hF : FS ν T L) (hM : HS ν M snx H nx) : ∀ {l : List ResultVar} {vs : List (SV (stdA fs ov))}, sRes P T M l = some vs → ∃ ls, evRes P L H l = some ls ∧ VSL ν vs ls
  | [], vs, h => by simp [sRes] at h; subst h; exact ⟨[], rfl, rfl⟩
  | .tmp t :: r, vs, h => by
    simp only [sRes] at h
    cases ht : T.get t with
    | none => simp [ht] at h
    | some v =>
      cases hr : sRes P T M r with
      | none => simp [ht, hr] at h
      | some l =>
        simp [ht, hr] at h; subst h
        obtain ⟨lv, h1, h2⟩ := hF.at_ t v ht
        obtain ⟨ls, h3, h4⟩ := sRes_ok hF hM hr
        exact ⟨lv :: ls, by simp [evRes, h1, h3], VSL.cons h2 h4⟩
  | .cell a t :: r, vs, h => by
    simp only [sRes] at h
    split at h
    · rename_i id off l ht hr
      split at h
      · rename_i u cs hg
        cases hp : sPrt P t cs off with
        | none => simp [hp] at h
        | some v =>
          simp [hp] at h; subst h
          obtain ⟨lv, h1, q, hq, rfl⟩ := hF.at_ a _ ht
          obtain ⟨q', lcs, hq', hH, hcs⟩ := (hM.at_ id _ hg).2
          rw [hq] at hq'; cases hq'
          obtain ⟨lv, h5, h6⟩ := sPrt_ok hp hcs
          obtain ⟨ls, h3, h4⟩ := sRes_ok hF hM hr
          exact ⟨lv :: ls, by simp [evRes, h1, h3, hH, LO.cs, h5], VSL.cons h6 h4⟩
      · cases h
    · cases h
theorem lOfS_ok {vs : List (SV (stdA fs ov))} {ls : List LV} (h : VSL ν vs ls) : VS ν (lOfS vs) (lOf ls) := by
  cases vs with
  | nil => rw [show ls = [] from h]; exact ⟨[], rfl, rfl⟩
  | cons x l =>
    obtain ⟨y, r, rfl, h1, h2⟩ := h
    cases l with
    | nil => rw [show r = [] from h2]; exact h1
    | cons x2 l =>
      obtain ⟨y2, r2, rfl, h3, h4⟩ := h2
      exact ⟨_, rfl, VSL.cons h1 (VSL.cons h3 h4)⟩
theorem unmark_get {n : Nat} : ∀ {l : List Nat} {H : Hp}, l.Nodup → (∀ d ∈ l, H.get d = some .dfr ∧ d < n) → ∃ H2, unmark n H l = some H2 ∧ ∀ q, H2.get q = if q ∈ l then none else H.get q
  | [], H, _, _ => ⟨H, rfl, fun q => by simp⟩
  | d :: l, H, hn, h => by
    obtain ⟨h1, h2⟩ := h d (by simp)
    have hb : Nat.blt d n = true := by simpa using h2
    have hn' := List.nodup_cons.1 hn
    obtain ⟨H2, a, b⟩ := unmark_get (n := n) (H := H.set d none) hn'.2 fun d' hd => ⟨by
      rw [Tr.get_set_ne _ _ fun e => hn'.1 (by rw [← e]; exact hd)]; exact (h d' (by simp [hd])).1, (h d' (by simp [hd])).2⟩
    refine ⟨H2, by simp only [unmark, h1, hb, cond_true, Tr.force_eq]; exact a, fun q => ?_⟩
    rw [b, Tr.get_set]
    by_cases e : q = d
    · subst e; simp
    · simp [e]
/-- What the text of a function has left. -/
theorem sFunc_pre {cs : CallS (stdA fs ov)} {call : CallT} (hc : CallSOK cs call) (hfs : fs.rng = rngAt P) {lp : FuncId → LoopS (stdA fs ov)} {Lm U : Nat} (hl : ∀ g fn c, P.funcs[g]? = some fn → fn.body = some c → LoopsOK P call Lm c (lp g)) (hU : U ≤ Lm)
    {g : FuncId} {args : List (SV (stdA fs ov))} {K : KS (stdA fs ov)} (h : sFunc P U cs lp g args M snx K) {largs : List LV} (ha : VSL ν args largs) (hM : HS ν M snx H nx) :
    ∃ ν' vs M' snx' wr ls H2 nx' lw mx, evStep P Lm call (.f g) largs H nx = some ⟨gcA largs nx H (lOf ls) H2 nx' lw, mx⟩ ∧ nx' ≤ mx ∧ HS ν' M' snx' H2 nx' ∧ Lo snx ν ν' ∧ (∀ id q o, snx ≤ id → ν' id = some (q, o) → nx ≤ q ∨ ∃ id0 ∈ wr, id0 < snx ∧ ∃ o', ν' id0 = some (q, o')) ∧ nx ≤ nx' ∧ snx ≤ snx' ∧
      (∀ q ∈ lw, q < nx → ∃ id ∈ wr, ∃ o, ν' id = some (q, o)) ∧ (∀ q, q < nx → q ∉ lw → H2.get q = H.get q) ∧ (∀ q ∈ lw, nx ≤ q ∨ ∃ o, H.get q = some o) ∧ VS ν' (lOfS vs) (lOf ls) ∧
      sEnd P args snx M (lOfS vs) M' snx' wr K := by
  unfold sFunc at h
  cases hfn : P.funcs[g]? with
  | none => simp only [hfn] at h <;> exact h.elim
  | some fn =>
    simp only [hfn] at h
    cases hb : fn.body with
    | none => simp only [hb] at h <;> exact h.elim
    | some c =>
      simp only [hb, Al.force_eq] at h
      have hs0 : Sim (fun q => nx ≤ q) ν ⟨sArgs 0 args .l, args.length + (fn.ntmps - args.length), M, snx, []⟩ ⟨ofArgs 0 largs .l, largs.length + (fn.ntmps - largs.length), H, nx, [], [], nx⟩ :=
        ⟨by rw [ha.length], sArgs_ok ha ⟨fun t u hu => by simp [Al.get_l] at hu⟩, hM, Nat.le_refl _, fun q hq => (by cases hq), fun q hq => hq⟩
      obtain ⟨e, S', ν', s', h1, h2, h3, h4⟩ := sCode_ok (lp := ⟨g, false, lp g⟩) (ro := none) hc (hl g fn c hfn hb) (fun p x _ hx => by rw [hfs]; exact hx) ⟨fn, hfn, hb⟩ hU (fun _ => rfl) h rfl hs0
      obtain ⟨T', N', H', nx', lw, df, mx⟩ := S'
      obtain ⟨ds, d1, d2, d3⟩ := h2.df
      have d1 : df = ds ++ [] := d1
      rw [List.append_nil] at d1
      subst d1
      obtain ⟨H2, u1, u2⟩ := unmark_get (n := nx') (H := H') d2 fun d hd => ⟨(d3 d hd).2.2.1, (d3 d hd).2.1⟩
      have hH2 : HS ν' s'.H s'.nx H2 nx' := h3.H.same' fun id r o hr => by
        rw [u2, if_neg fun hd => (d3 r hd).2.2.2 id o hr]
      have hup : nx ≤ nx' := h2.up
      have hmx : nx' ≤ mx := h3.mx
      have b1 : Nat.ble nx nx' = true := by simpa using hup
      have fin : ∀ vs, sRes P s'.T s'.H fn.results.toList = some vs → (e = .normal ∨ e = .ret) → sEnd P args snx M (lOfS vs) s'.H s'.nx s'.wr K → ∃ ν' vs M' snx' wr ls H2 nx' lw mx, evStep P Lm call (.f g) largs H nx = some ⟨gcA largs nx H (lOf ls) H2 nx' lw, mx⟩ ∧ nx' ≤ mx ∧ HS ν' M' snx' H2 nx' ∧ Lo snx ν ν' ∧ (∀ id q o, snx ≤ id → ν' id = some (q, o) → nx ≤ q ∨ ∃ id0 ∈ wr, id0 < snx ∧ ∃ o', ν' id0 = some (q, o')) ∧ nx ≤ nx' ∧ snx ≤ snx' ∧
        (∀ q ∈ lw, q < nx → ∃ id ∈ wr, ∃ o, ν' id = some (q, o)) ∧ (∀ q, q < nx → q ∉ lw → H2.get q = H.get q) ∧ (∀ q ∈ lw, nx ≤ q ∨ ∃ o, H.get q = some o) ∧ VS ν' (lOfS vs) (lOf ls) ∧
        sEnd P args snx M (lOfS vs) M' snx' wr K := fun vs hr he hk => by
        obtain ⟨ls, h5, h6⟩ := sRes_ok h3.T hH2 hr
        refine ⟨ν', vs, s'.H, s'.nx, s'.wr, ls, H2, nx', addW df lw, mx, ?_, hmx, hH2, h2.lo, h2.nw, hup, h2.sup, fun q hq hlt => ?_, fun q hq hn => ?_, fun q hq => ?_, lOfS_ok h6, hk⟩
        · rcases he with rfl | rfl <;> simp only [evStep, hfn, hb, Tr.force_eq, nN_eq, h1, u1, h5, b1, cond_true]
        · rcases mem_addW.1 hq with h7 | h7
          · have : nx ≤ q := (d3 q h7).1; omega
          · exact (h3.wr q h7).resolve_left (by show ¬ nx ≤ q; omega)
        · rw [u2, if_neg fun hd => hn (mem_addW.2 (.inl hd))]
          exact h2.keep q hq fun h => hn (mem_addW.2 (.inr h))
        · rcases mem_addW.1 hq with h7 | h7
          · exact .inl (d3 q h7).1
          · exact (h2.has q h7).resolve_left (by simp)
      cases e with
      | normal =>
        simp only at h4
        split at h4
        · rename_i vs hr; exact fin vs hr (.inl rfl) h4
        · exact h4.elim
      | ret =>
        simp only at h4
        split at h4
        · rename_i vs hr; exact fin vs hr (.inr rfl) h4
        · exact h4.elim
      | exit j => exact h4.elim
      | goto j => exact h4.elim
theorem sFunc_ok {cs : CallS (stdA fs ov)} {call : CallT} (hc : CallSOK cs call) (hfs : fs.rng = rngAt P) {lp : FuncId → LoopS (stdA fs ov)} {Lm U : Nat} (hl : ∀ g fn c, P.funcs[g]? = some fn → fn.body = some c → LoopsOK P call Lm c (lp g)) (hU : U ≤ Lm)
    {g : FuncId} {args : List (SV (stdA fs ov))} (hy : noY args = true) {K : KS (stdA fs ov)} (h : sFunc P U cs lp g args M snx K) {largs : List LV} (ha : VSL ν args largs) (hM : HS ν M snx H nx) : GotOp ν snx H nx K (evStep P Lm call (.f g) largs H nx) := by
  obtain ⟨ν', vs, M', snx', wr, ls, H2, nx', lw, mx, e1, e2, e3, e4, e5, e6, e7, e8, e9, e10, e11, e12⟩ := sFunc_pre hc hfs hl hU h ha hM
  have h4 : sLeave P snx M (lOfS vs) M' snx' wr K := by
    rw [sEnd, hy] at e12; exact e12
  obtain ⟨ν2, v2, M2, snx2, wr2, k1, k2, k3⟩ := sLeave_ok (lw := lw) hM e3 e4 e5 e6 e8 e9 e10 e11 h4
  have hg : gcA largs nx H (lOf ls) H2 nx' lw = gc nx H (lOf ls) H2 nx' lw := by
    cases args with
    | nil => rw [show largs = [] from ha]; rfl
    | cons x l =>
      obtain ⟨y, r, rfl, hx, _⟩ := ha
      cases y with
      | yld q =>
        cases x with
        | yld id => cases hy
        | b x => cases hx
        | i k x => cases hx
        | s x => cases hx
        | nilp => cases hx
        | p id off => obtain ⟨_, _, e⟩ := hx; cases e
        | pe id z i j => obtain ⟨_, _, _, _, e⟩ := hx; cases e
        | nils => cases hx
        | sl id off len cap => obtain ⟨_, _, e⟩ := hx; cases e
        | ls own id n => obtain ⟨_, ⟨e, _⟩ | ⟨_, _, _, ⟨_, e⟩ | ⟨_, _, _, e⟩⟩⟩ := hx <;> cases e
        | fn f a c => obtain ⟨_, _, e, _⟩ := hx; cases e
        | nilf => cases hx
        | nili => cases hx
        | agg l => obtain ⟨_, e, _⟩ := hx; cases e
        | tup l => obtain ⟨_, e, _⟩ := hx; cases e
      | _ => rfl
  rw [hg] at e1
  exact ⟨_, e1, Nat.le_trans k3 e2, _, ν2, v2, M2, snx2, wr2, rfl, k1, k2⟩
theorem sFunc_okW {cs : CallS (stdA fs ov)} {call : CallT} (hc : CallSOK cs call) (hfs : fs.rng = rngAt P) {lp : FuncId → LoopS (stdA fs ov)} {Lm U : Nat} (hl : ∀ g fn c, P.funcs[g]? = some fn → fn.body = some c → LoopsOK P call Lm c (lp g)) (hU : U ≤ Lm)
    {g : FuncId} {args : List (SV (stdA fs ov))} (hy : noY args = false) {K : KS (stdA fs ov)} (h : sFunc P U cs lp g args M snx K) {largs : List LV} (ha : VSL ν args largs) (hM : HS ν M snx H nx) : GotOpW ν snx H nx K (evStep P Lm call (.f g) largs H nx) := by
  obtain ⟨ν', vs, M', snx', wr, ls, H2, nx', lw, mx, e1, e2, e3, e4, e5, e6, e7, e8, e9, e10, e11, e12⟩ := sFunc_pre hc hfs hl hU h ha hM
  rw [sEnd, hy] at e12
  cases args with
  | nil => cases hy
  | cons x l =>
    cases x with
    | yld id =>
      obtain ⟨y, r, rfl, ⟨q, _, rfl⟩, _⟩ := ha
      refine ⟨_, ν', lOfS vs, M', snx', below snx wr, e1, e2, ⟨e4, fun id q o h1 h2 => (e5 id q o h1 h2).imp_right fun ⟨id0, a, b, c⟩ => ⟨id0, mem_below.2 ⟨a, b⟩, b, c⟩, e6, e7, e3, e11, fun q hq => ?_, fun q hq hn => e9 q hq fun h => hn (mem_below.2 ⟨h, hq⟩), fun q hq => e10 q (mem_below.1 hq).1⟩, e12⟩
      obtain ⟨h1, h2⟩ := mem_below.1 hq
      obtain ⟨id, a, o, b⟩ := e8 q h1 h2
      by_cases hid : id < snx
      · exact ⟨id, mem_below.2 ⟨a, hid⟩, o, by rw [← e4 id hid]; exact b⟩
      · rcases e5 id q o (by omega) b with h3 | ⟨id0, c1, c2, o', c3⟩
        · omega
        · exact ⟨id0, mem_below.2 ⟨c1, c2⟩, o', by rw [← e4 id0 c2]; exact c3⟩
    | _ => cases hy
theorem sPutArgs_ok : ∀ {l : List (SV (stdA fs ov))} {ll : List LV} {ps : List Tmp} {T : Al (SV (stdA fs ov))} {L : Tr LV}, VSL ν l ll → FS ν T L → FS ν (sPutArgs ps l T) (putArgs ps ll L)
  | [], ll, ps, T, L, h, hF => by rw [show ll = [] from h]; cases ps <;> exact hF
  | x :: l, ll, [], T, L, h, hF => by obtain ⟨y, r, rfl, h1, h2⟩ := h; exact hF
  | x :: l, ll, p :: ps, T, L, h, hF => by
    obtain ⟨y, r, rfl, h1, h2⟩ := h
    simp only [sPutArgs, putArgs, Al.force_eq, Tr.force_eq]
    refine sPutArgs_ok h2 ⟨fun t u hu => ?_⟩
    rw [Al.get_set] at hu; rw [Tr.get_set]
    split at hu
    · rename_i e; rw [if_pos e]; cases hu; exact ⟨y, rfl, h1⟩
    · rename_i e; rw [if_neg e]; exact hF.at_ t u hu
theorem rngAt_to {g : Nat} {p : List Bool} {ps : Array Tmp} {as body : Code} (h : rngAt P g p = some (ps, as, body)) : ∃ fn c f, P.funcs[g]? = some fn ∧ fn.body = some c ∧ codeAt c p = some (.rangeFunc f ps as body) := by
  unfold rngAt at h
  split at h
  · rename_i fn h1
    split at h
    · rename_i c h2
      split at h
      · rename_i f ps' as' body' h3
        cases h; exact ⟨fn, c, f, h1, h2, h3⟩
      · cases h
    · cases h
  · cases h
/-- A frame's flag or exit is set. -/
theorem frm_set {W : Nat → Prop} {s : SS (stdA fs ov)} {S : Rx.S} (hs : Sim W ν s S) {id r : Nat} (hr : ν id = some (r, 0)) {g N : Nat} {p : List Bool} {T : Al (SV (stdA fs ov))} {b b' : Bool} {e e' : Ex} (hg : s.H.get id = some (.frm g p N T b e)) (hb : b' = true → e' = .normal) :
    ∃ ps as body d L, S.H.get r = some (.loop (bif b then .busy else e.st) e.code N L ps as body d) ∧ fs.rng g p = some (ps, as, body) ∧
      HS ν (s.H.set id (some (.frm g p N T b' e'))) s.nx (S.H.set r (some (.loop (bif b' then .busy else e'.st) e'.code N L ps as body d))) S.nx := by
  obtain ⟨_, r', ps, as, body, d, L, a1, a2, a3, a4, a5⟩ := hs.H.at_ id _ hg
  rw [hr] at a1; cases a1
  exact ⟨ps, as, body, d, L, a2, a4, hs_write hs.H hg rfl rfl hr ⟨r, ps, as, body, d, L, hr, Tr.get_set_same _ _ _, a3, a4, hb⟩⟩
theorem objs_loop {n r : Nat} {H H₀ : Hp} {st : LoopState} {pe : Option Code} {N : Nat} {T : Tr LV} {ps : Array Tmp} {as body : Code} {d : Nat} (hr : H.get r = some (.loop st pe N T ps as body d)) : ∀ {l : List Nat}, r ∈ l → objsBelow n H H₀ l = false
  | [], h => by cases h
  | x :: l, h => by
    simp only [objsBelow]
    rcases List.mem_cons.1 h with rfl | h
    · rw [hr]; simp [LO.lt]
    · rw [objs_loop hr h, Bool.and_false]
/-- One round of a range over a function. -/
theorem sTurn_ok {cs : CallS (stdA fs ov)} {call : CallT} (hc : CallSOK cs call) (hfs : fs.rng = rngAt P) {lp : FuncId → LoopS (stdA fs ov)} {Lm U : Nat} (hl : ∀ g fn c, P.funcs[g]? = some fn → fn.body = some c → LoopsOK P call Lm c (lp g)) (hU : U ≤ Lm)
    {id r : Nat} {args : List (SV (stdA fs ov))} {K : KS (stdA fs ov)} (h : sTurn P U cs lp id args M snx K) {largs : List LV} (ha : VSL ν args largs) (hM : HS ν M snx H nx) (hr : ν id = some (r, 0)) : GotOpW ν snx H nx K (evStep P Lm call (.r r) largs H nx) := by
  unfold sTurn at h
  split at h
  · rename_i g p N T hg
    obtain ⟨hid, r', ps, as, body, d, L, a1, a2, a3, a4, _⟩ := hM.at_ id _ hg
    rw [hr] at a1; cases a1
    split at h
    · rename_i ps0 as0 body0 hrng
      rw [hfs, hrng] at a4; cases a4
      obtain ⟨fn, c0, f, q1, q2, q3⟩ := rngAt_to hrng
      have hlen := ha.length
      rw [← hlen] at h
      cases hb : (Nat.beq ps.size largs.length && allLt N ps.toList) with
      | false => rw [hb] at h; exact h.elim
      | true =>
        rw [hb, cond_true] at h
        have hrn := (hM.lt id r 0 hr).1
        have hb' : (Nat.beq ps.size largs.length && allLt N ps.toList && Nat.blt r nx) = true := by rw [hb]; simpa using hrn
        have hs0 : Sim (fun q => nx ≤ q) ν ⟨sPutArgs ps.toList args T, N, M, snx, []⟩ ⟨putArgs ps.toList largs L, N, H, nx, [], [], nx⟩ :=
          ⟨rfl, sPutArgs_ok ha a3, hM, Nat.le_refl _, fun q hq => (by cases hq), fun q hq => hq⟩
        have nofs : ∀ p x, (⟨g, true, lp g⟩ : LpG (stdA fs ov)).rg = false → rngAt P g p = some x → fs.rng g p = some x := fun p x e => by cases e
        obtain ⟨e1, S1, ν1, s1, h1, x1, y1, h⟩ := sCode_ok (lp := ⟨g, true, lp g⟩) (ro := some r) hc (hl g fn c0 q1 q2) nofs ⟨fn, q1, q2⟩ hU (fun e => by cases e) h (by simp [codeAt, q3]) hs0
        have hr1 : ν1 id = some (r, 0) := by rw [x1.lo id hid]; exact hr
        dsimp only at h
        split at h
        · rename_i g1 p1 N1 T1 hg1
          simp only [Al.force_eq] at h
          obtain ⟨ps1, as1, body1, d1, L1, b1, b2, b3⟩ := frm_set (b' := true) (e' := .normal) y1 hr1 hg1 (fun _ => rfl)
          obtain ⟨T2, N2, H2, nx2, lw2, df2, mx2⟩ := S1
          have hs1 : Sim (fun q => nx ≤ q) ν1 ⟨s1.T, s1.N, s1.H.set id (some (.frm g1 p1 N1 T1 true .normal)), s1.nx, addW [id] s1.wr⟩ ⟨T2, N2, H2.set r (some (.loop .busy none N1 L1 ps1 as1 body1 d1)), nx2, addW [r] lw2, df2, mx2⟩ :=
            ⟨y1.N, y1.T, b3, y1.mx, fun q hq => by
              rcases mem_addW.1 hq with hq | hq
              · simp at hq; subst hq; exact .inr ⟨id, mem_addW.2 (.inl (by simp)), 0, hr1⟩
              · exact (y1.wr q hq).imp_right fun ⟨i, a, b⟩ => ⟨i, mem_addW.2 (.inr a), b⟩, y1.wup⟩
          have x12 : XT ν1 s1 ⟨T2, N2, H2, nx2, lw2, df2, mx2⟩ ν1 ⟨s1.T, s1.N, s1.H.set id (some (.frm g1 p1 N1 T1 true .normal)), s1.nx, addW [id] s1.wr⟩ ⟨T2, N2, H2.set r (some (.loop .busy none N1 L1 ps1 as1 body1 d1)), nx2, addW [r] lw2, df2, mx2⟩ :=
            ⟨fun _ _ => rfl, fun id q o h1 h2 => (by have := (y1.H.lt id q o h2).2; omega), Nat.le_refl _, Nat.le_refl _, fun q hq => mem_addW.2 (.inr hq), fun q hq => mem_addW.2 (.inr hq), fun q hq hn => Tr.get_set_ne _ _ fun e => by subst e; exact hn id (mem_addW.2 (.inl (by simp))) 0 hr1,
              fun q hq hn => Tr.get_set_ne _ _ fun e => by subst e; exact hn (mem_addW.2 (.inl (by simp))), fun q hq => by
                rcases mem_addW.1 hq with hq | hq
                · simp at hq; subst hq; exact .inr (.inr ⟨_, b1⟩)
                · exact .inl hq, .of rfl⟩
          obtain ⟨e2, S3, ν3, s3, h2, x3, y3, h⟩ := sCode_ok (lp := ⟨g, true, lp g⟩) (ro := some r) hc (hl g fn c0 q1 q2) nofs ⟨fn, q1, q2⟩ hU (fun e => by cases e) h (by simp [codeAt, q3]) hs1
          have hid1 : id < s1.nx := (y1.H.at_ id _ hg1).1
          have hr3 : ν3 id = some (r, 0) := by rw [x3.lo id hid1]; exact hr1
          split at h
          · rename_i g3 p3 N3 T3 hg3
            obtain ⟨ps3, as3, body3, d3, L3, c1, c2, c3⟩ := frm_set (b' := false) (e' := e2) y3 hr3 hg3 (fun e => by cases e)
            have xx : XT ν ⟨sPutArgs ps.toList args T, N, M, snx, []⟩ ⟨putArgs ps.toList largs L, N, H, nx, [], [], nx⟩ ν3 s3 S3 := (x1.trans y1 x12).trans hs1 x3
            obtain ⟨T4, N4, H4, nx4, lw4, df4, mx4⟩ := S3
            have hup : nx ≤ nx4 := xx.up
            have hmx : nx4 ≤ mx4 := y3.mx
            have hble : Nat.ble nx nx4 = true := by simpa using hup
            have hrin : r ∈ below nx (addW [r] lw4) := mem_below.2 ⟨mem_addW.2 (.inl (by simp)), hrn⟩
            have a2' : H.get r = some (.loop .ready none N L ps as body d) := a2
            have b1' : H2.get r = some (.loop .ready none N1 L1 ps1 as1 body1 d1) := b1
            have c1' : H4.get r = some (.loop .busy none N3 L3 ps3 as3 body3 d3) := c1
            have hgc : gc nx H e2.ok (H4.set r (some (.loop e2.st e2.code N3 L3 ps3 as3 body3 d3))) nx4 (addW [r] lw4) = ⟨e2.ok, H4.set r (some (.loop e2.st e2.code N3 L3 ps3 as3 body3 d3)), nx4, below nx (addW [r] lw4)⟩ := by
              rw [below_match, if_neg (fun e => by rw [e] at hrin; cases hrin), objs_loop (Tr.get_set_same _ _ _) hrin, Bool.and_false]; rfl
            have hev : evStep P Lm call (.r r) largs H nx = some ⟨⟨e2.ok, H4.set r (some (.loop e2.st e2.code N3 L3 ps3 as3 body3 d3)), nx4, below nx (addW [r] lw4)⟩, mx4⟩ := by
              rw [← hgc]
              simp only [evStep, a2', hb', cond_true, h1, b1', Tr.force_eq, h2, c1', hble]
            have lw_lt : ∀ q ∈ lw4, q < nx → ∃ id ∈ s3.wr, ∃ o, ν3 id = some (q, o) := fun q hq hlt => (y3.wr q hq).resolve_left (by omega)
            refine ⟨_, ν3, .b (isN e2), s3.H.set id (some (.frm g3 p3 N3 T3 false e2)), s3.nx, addW [id] s3.wr, hev, hmx, ⟨xx.lo, fun i q o u1 u2 => (xx.nw i q o u1 u2).imp_right fun ⟨i0, a, b⟩ => ⟨i0, mem_addW.2 (.inr a), b⟩, hup, xx.sup, c3, by cases e2 <;> rfl, fun q hq => ?_, fun q hq hn => ?_, fun q hq => ?_⟩, h⟩
            · obtain ⟨u1, u2⟩ := mem_below.1 hq
              rcases mem_addW.1 u1 with u1 | u1
              · simp at u1; subst u1; exact ⟨id, mem_addW.2 (.inl (by simp)), 0, hr⟩
              · obtain ⟨i, w1, o, w2⟩ := lw_lt q u1 u2
                by_cases hi : i < snx
                · exact ⟨i, mem_addW.2 (.inr w1), o, by rw [← xx.lo i hi]; exact w2⟩
                · rcases xx.nw i q o (by show snx ≤ i; omega) w2 with h9 | ⟨i0, z1, z2, o', z3⟩
                  · have h9 : nx ≤ q := h9; omega
                  · exact ⟨i0, mem_addW.2 (.inr z1), o', by rw [← xx.lo i0 z2]; exact z3⟩
            · have hqr : q ≠ r := fun e => by subst e; exact hn hrin
              show (H4.set r _).get q = H.get q
              rw [Tr.get_set_ne _ _ hqr]
              exact xx.keep q hq fun hq2 => hn (mem_below.2 ⟨mem_addW.2 (.inr hq2), hq⟩)
            · rcases mem_addW.1 (mem_below.1 hq).1 with u1 | u1
              · simp at u1; subst u1; exact .inr ⟨_, a2⟩
              · exact (xx.has q u1).resolve_left (by simp)
          · exact h.elim
        · exact h.elim
    · exact h.elim
  · exact h.elim
end Go.Rx

set_option linter.unusedSimpArgs false
set_option linter.unusedVariables false
set_option linter.unusedSectionVars false
namespace Go.Rx
open Go
variable {fs : Fs} {ov : Bool} {ν : Nm} {P : Program}

/-- Rounds of a loop, at most. -/
abbrev LL : Nat := 18446744073709551616
/-- The run of calls, with the one call that is known. -/
noncomputable def CN (P : Program) (aw : FuncId) (n : Nat) : CallT := known [(aw, [([], .b true)])] (evKnown P LL [(aw, [([], .b true)])] n)
theorem CN_step {aw n g : Nat} (h : g ≠ aw) : CN P aw (n + 1) (.f g) = evStep P LL (CN P aw n) (.f g) := by
  funext as H nx
  have hb : Nat.beq g aw = false := (beq_false _ _).2 h
  simp only [CN, known, look, hb, cond_false]
  rfl
theorem CN_awake {aw n : Nat} {H : Hp} {nx : Nat} : CN P aw n (.f aw) [] H nx = some ⟨⟨.b true, H, nx, []⟩, nx⟩ := by
  have hb : Nat.beq aw aw = true := Nat.beq_refl _
  simp [CN, known, look, lookIn, hb, sameL]
/-- A call that leaves memory as it is. -/
def Pure (P : Program) (aw m g : Nat) (args : List LV) (H : Hp) (nx : Nat) (lv : LV) : Prop := ∃ r, CN P aw m (.f g) args H nx = some r ∧ nx ≤ r.mx ∧ r.o.v = lv ∧ r.o.nx = nx ∧ r.o.wr = [] ∧ ∀ q, q < nx → r.o.H.get q = H.get q
/-- What is told of a function, in the symbolic run. -/
def SpecOK (P : Program) (aw d g : Nat) (f : List (SV (stdA fs ov)) → SH (stdA fs ov) → Nat → KS (stdA fs ov) → Prop) : Prop := ∀ m, d ≤ m → ∀ args M snx K, f args M snx K → ∀ ν largs H nx, VSL ν args largs → HS ν M snx H nx → GotOp ν snx H nx K (CN P aw m (.f g) largs H nx)
abbrev SpL (A : Alg) := List (Nat × (List (SV A) → SH A → Nat → KS A → A.R))
noncomputable def spOf {A : Alg} : SpL A → SpecS A
  | [], _ => none
  | (g, f) :: l, g' => bif Nat.beq g' g then some f else spOf l g'
def SpOK (P : Program) (aw d : Nat) (l : SpL (stdA fs ov)) : Prop := ∀ x ∈ l, SpecOK P aw d x.1 x.2
theorem spOf_ok {l : SpL (stdA fs ov)} {g : Nat} {f} (h : spOf l g = some f) : (g, f) ∈ l := by
  induction l with
  | nil => cases h
  | cons x l ih =>
    obtain ⟨g', f'⟩ := x
    simp only [spOf] at h
    cases hb : Nat.beq g g'
    · simp only [hb, cond_false] at h; exact List.mem_cons_of_mem _ (ih h)
    · simp only [hb, cond_true, Option.some.injEq] at h
      rw [(beq_iff _ _).1 hb, h]; exact List.mem_cons_self
/-- The call of the chapter's examples, which returns true. -/
abbrev awakeS {A : Alg} : List (SV A) → SH A → Nat → KS A → A.R := fun args M snx K => match args with | [] => K (.b (A.ofB true)) M snx [] | _ => A.fail "awake"
theorem awake_ok {aw d : Nat} : SpecOK (fs := fs) (ov := ov) P aw d aw awakeS := by
  intro m _ args M snx K h ν largs H nx ha hM
  cases args with
  | cons x l => exact h.elim
  | nil =>
    rw [show largs = [] from ha, CN_awake]
    exact ⟨_, rfl, Nat.le_refl _, _, ν, .b true, M, snx, [], rfl, got_same hM rfl, h⟩
theorem pure_got {aw m g : Nat} {largs : List LV} {H : Hp} {nx : Nat} {lv : LV} (h : Pure P aw m g largs H nx lv) {M : SH (stdA fs ov)} {snx : Nat} {K : KS (stdA fs ov)} {v : SV (stdA fs ov)} (hM : HS ν M snx H nx) (hv : VS ν v lv) (hK : K v M snx []) : GotOp ν snx H nx K (CN P aw m (.f g) largs H nx) := by
  obtain ⟨r, h1, h2, h3, h4, h5, h6⟩ := h
  refine ⟨r, h1, by rw [h4]; exact h2, _, ν, v, M, snx, [], rfl, ⟨fun _ _ => rfl, fun id q o a b => (by have := (hM.lt id q o b).2; omega), by rw [h4]; exact Nat.le_refl _, Nat.le_refl _, ?_, by rw [h3]; exact hv, fun q hq => (by rw [h5] at hq; cases hq), fun q hq _ => h6 q hq, fun q hq => (by rw [h5] at hq; cases hq), fun e => absurd h4 e⟩, hK⟩
  exact hM.same h6 (by rw [h4]; exact Nat.le_refl _)
def LoopsAll (P : Program) (aw d : Nat) (lp : FuncId → LoopS (stdA fs ov)) : Prop := ∀ m, d ≤ m → ∀ g fn c, P.funcs[g]? = some fn → fn.body = some c → LoopsOK P (CN P aw m) LL c (lp g)
/-- No loop is told of. -/
abbrev noLoop {A : Alg} : FuncId → LoopS A := fun _ _ => none
theorem noLoop_ok {aw d : Nat} : LoopsAll (fs := fs) (ov := ov) P aw d noLoop := fun _ _ _ _ _ _ _ p rg f h => by cases h
theorem CN_turn {aw n r : Nat} : CN P aw (n + 1) (.r r) = evStep P LL (CN P aw n) (.r r) := by
  funext as H nx
  simp only [CN, known]
  rfl
theorem sCall_ok {aw d U : Nat} {l : SpL (stdA fs ov)} {lp : FuncId → LoopS (stdA fs ov)} (hsp : SpOK P aw d l) (haw : (spOf l aw).isSome = true) (hlp : LoopsAll P aw d lp) (hU : U ≤ LL) (hfs : fs.rng = rngAt P) : ∀ n, CallSOK (sCall P U (spOf l) lp n) (CN P aw (n + d))
  | 0 => ⟨fun g args M snx K h => h.elim, fun g args M snx K h => h.elim, fun g args M snx K h => h.elim⟩
  | n + 1 => ⟨fun g args M snx K h hy ν largs H nx ha hM => by
      simp only [sCall] at h
      cases hf : spOf l g with
      | some f =>
        simp only [hf] at h
        exact hsp _ (spOf_ok hf) _ (by omega) args M snx K h ν largs H nx ha hM
      | none =>
        simp only [hf] at h
        have hg : g ≠ aw := fun e => by rw [e] at hf; rw [hf] at haw; cases haw
        rw [show n + 1 + d = n + d + 1 by omega, CN_step hg]
        exact sFunc_ok (sCall_ok hsp haw hlp hU hfs n) hfs (fun g fn c h1 h2 => hlp _ (by omega) g fn c h1 h2) hU hy h ha hM,
    fun g args M snx K h hy ν largs H nx ha hM => by
      simp only [sCall] at h
      cases hf : spOf l g with
      | some f =>
        simp only [hf] at h
        exact (hsp _ (spOf_ok hf) _ (by omega) args M snx K h ν largs H nx ha hM).w
      | none =>
        simp only [hf] at h
        have hg : g ≠ aw := fun e => by rw [e] at hf; rw [hf] at haw; cases haw
        rw [show n + 1 + d = n + d + 1 by omega, CN_step hg]
        exact sFunc_okW (sCall_ok hsp haw hlp hU hfs n) hfs (fun g fn c h1 h2 => hlp _ (by omega) g fn c h1 h2) hU hy h ha hM,
    fun id args M snx K h ν largs H nx r ha hM hr => by
      simp only [sCall] at h
      rw [show n + 1 + d = n + d + 1 by omega, CN_turn]
      exact sTurn_ok (sCall_ok hsp haw hlp hU hfs n) hfs (fun g fn c h1 h2 => hlp _ (by omega) g fn c h1 h2) hU h ha hM hr⟩
/-- The end of a call that only reads. -/
structure doneK (lv : LV) (n : Nat) (v : SV (stdA fs ov)) (M : SH (stdA fs ov)) (snx' : Nat) (wr : List Nat) : Prop where
  v : ∀ (ν : Nm) (lv' : LV), VS ν v lv' → lv' = lv
  n : snx' = n
  w : wr = []
/-- A call whose symbolic run, from given names, gives a value without names and has written nothing. -/
theorem pure_of {aw d U n g : Nat} {l : SpL (stdA fs ov)} {lp : FuncId → LoopS (stdA fs ov)} (hsp : SpOK P aw d l) (haw : (spOf l aw).isSome = true) (hlp : LoopsAll P aw d lp) (hU : U ≤ LL) (hg : g ≠ aw) {m : Nat} (hm : m = n + d + 1)
    {args : List (SV (stdA fs ov))} {M : SH (stdA fs ov)} {snx : Nat} {lv : LV} (h : sFunc P U (sCall P U (spOf l) lp n) lp g args M snx (doneK lv snx))
    {ν : Nm} {largs : List LV} {H : Hp} {nx : Nat} (ha : VSL ν args largs) (hM : HS ν M snx H nx) (hfs : fs.rng = rngAt P := by rfl) (hy : noY args = true := by rfl) : Pure P aw m g largs H nx lv := by
  subst hm
  obtain ⟨r, h1, h2, o, ν', v, M', snx', wr, e, hG, ⟨hv, hs, hw⟩⟩ := sFunc_ok (sCall_ok hsp haw hlp hU hfs n) hfs (fun g fn c h1 h2 => hlp (n + d) (by omega) g fn c h1 h2) hU hy h ha hM
  cases e
  subst hs hw
  rw [← CN_step hg] at h1
  have hn : r.o.nx = nx := by
    by_cases e : r.o.nx = nx
    · exact e
    · exact absurd rfl (hG.same e)
  have hw : r.o.wr = [] := by
    cases hq : r.o.wr with
    | nil => rfl
    | cons q l => obtain ⟨id, hid, _⟩ := hG.wr q (by rw [hq]; simp); cases hid
  exact ⟨r, h1, by rw [← hn]; exact h2, hv _ _ hG.v, hn, hw, fun q hq => hG.keep q hq (by rw [hw]; simp)⟩
theorem hs_empty {H : Hp} {nx : Nat} : HS (fs := fs) (ov := ov) (fun _ => none) .l 0 H nx := ⟨fun id so h => (by simp [Al.get_l] at h), fun id r o h => (by cases h), fun id id' r o o' so so' h => by simp [Al.get_l] at h⟩

/-! ### Lists that came in -/
structure IsL (H : Hp) (nx : Nat) (ks : List CK) (h : Ll) (lv : LV) : Prop where
  rows : ∀ x ∈ h, x.length = ks.length
  at_ : (lv = .nils ∧ h = []) ∨ ∃ r o, r < nx ∧ (h.length = 0 ∨ ∃ lo, H.get r = some lo ∧ RD lo o ks h) ∧ ((o = 0 ∧ lv = .gs r 0 0 h.length) ∨ ∃ cap, h.length ≤ cap ∧ lv = .sl r o h.length cap)
noncomputable def lsMem {A : Alg} : Nat → List (List CK × A.L) → SH A
  | _, [] => .l
  | k, (ks, h) :: r => (lsMem (k + 1) r).set k (some (.list 0 ks false h))
theorem ls_in {H : Hp} {nx : Nat} : ∀ {l : List (List CK × Ll)} {lvs : List LV} (k : Nat), (∀ (i : Nat) (x : List CK × Ll) (lv : LV), l[i]? = some x → lvs[i]? = some lv → IsL H nx x.1 x.2 lv) → l.length = lvs.length →
    ∃ ν : Nm, (∀ id, id < k ∨ k + l.length ≤ id → ν id = none) ∧ (∀ id r o, ν id = some (r, o) → r < nx ∧ id < k + l.length) ∧ (∀ id so, (lsMem (A := stdA fs ov) k l).get id = some so → k ≤ id ∧ id < k + l.length ∧ so.mine = false ∧ OS ν H id so) ∧ ∀ i x lv, l[i]? = some x → lvs[i]? = some lv → VS (fs := fs) (ov := ov) ν (.ls false (k + i) (x.2.length : Int)) lv
  | [], lvs, k, h, hl => ⟨fun _ => none, fun _ _ => rfl, fun _ _ _ h => (by cases h), fun id so h => (by simp [lsMem, Al.get_l] at h), fun i x lv h => by simp at h⟩
  | (ks, hh) :: l, [], k, h, hl => by simp at hl
  | (ks, hh) :: l, lv0 :: lvs, k, h, hl => by
    obtain ⟨ν, n1, n2, n3, n4⟩ := ls_in (l := l) (lvs := lvs) (k + 1) (fun i x lv h1 h2 => h (i + 1) x lv (by simpa using h1) (by simpa using h2)) (by simpa using hl)
    have h0 := h 0 _ _ rfl rfl
    have hk : ν k = none := n1 k (.inl (by omega))
    have hle : ∀ x : Option (Nat × Nat), NLe ν (updN ν k x) := fun x id y hy => by rw [updN_ne fun e => by subst e; rw [hk] at hy; cases hy]; exact hy
    have rest : ∀ (x : Option (Nat × Nat)), (∀ r o, x = some (r, o) → r < nx) → VS (fs := fs) (ov := ov) (updN ν k x) (.ls false k (hh.length : Int)) lv0 → OS (fs := fs) (ov := ov) (updN ν k x) H k (.list 0 ks false hh) →
        ∃ ν : Nm, (∀ id, id < k ∨ k + (l.length + 1) ≤ id → ν id = none) ∧ (∀ id r o, ν id = some (r, o) → r < nx ∧ id < k + (l.length + 1)) ∧ (∀ id so, (lsMem (A := stdA fs ov) k ((ks, hh) :: l)).get id = some so → k ≤ id ∧ id < k + (l.length + 1) ∧ so.mine = false ∧ OS ν H id so) ∧ ∀ i x lv, ((ks, hh) :: l)[i]? = some x → (lv0 :: lvs)[i]? = some lv → VS (fs := fs) (ov := ov) ν (.ls false (k + i) (x.2.length : Int)) lv := fun x hx hv hO => by
      refine ⟨updN ν k x, fun id hid => ?_, fun id r o hr => ?_, fun id so hg => ?_, fun i y lv hi hlv => ?_⟩
      · rw [updN_ne (by omega)]; exact n1 id (by omega)
      · by_cases e : id = k
        · subst e; rw [updN_same] at hr; exact ⟨hx r o hr, by omega⟩
        · rw [updN_ne e] at hr; have := n2 id r o hr; omega
      · simp only [lsMem, Al.get_set] at hg
        split at hg
        · rename_i e; subst e; cases hg; exact ⟨by omega, by omega, rfl, hO⟩
        · rename_i e
          obtain ⟨a, b, c, d⟩ := n3 id so hg
          exact ⟨by omega, by omega, c, d.sub (hle x) (updN_ne e) fun _ _ _ _ h => h⟩
      · cases i with
        | zero => simp at hi hlv; subst hi hlv; exact hv
        | succ i =>
          have := (n4 i y lv (by simpa using hi) (by simpa using hlv)).mono (hle x)
          rwa [show k + (i + 1) = k + 1 + i by omega]
    obtain ⟨hr, ⟨rfl, rfl⟩ | ⟨r, o, a1, a23, a4⟩⟩ := h0
    · exact rest none (fun _ _ h => by cases h) ⟨by simp, .inl ⟨rfl, by simp⟩⟩ ⟨hr, .inl rfl, fun h => by cases h⟩
    · refine rest (some (r, o)) (fun _ _ h => by cases h; exact a1) ⟨Int.natCast_nonneg _, .inr ⟨r, o, updN_same, ?_⟩⟩ ⟨hr, a23.imp_right fun ⟨lo, a2, a3⟩ => ⟨r, o, lo, updN_same, a2, a3⟩, fun h => by cases h⟩
      rcases a4 with ⟨rfl, rfl⟩ | ⟨cap, b1, rfl⟩
      · exact .inl ⟨rfl, by simp⟩
      · exact .inr ⟨rfl, cap, by simpa using b1, by simp⟩
theorem hs_in {H : Hp} {nx : Nat} {l : List (List CK × Ll)} {ν : Nm} (n2 : ∀ id r o, ν id = some (r, o) → r < nx ∧ id < 0 + l.length) (n3 : ∀ id so, (lsMem (A := stdA fs ov) 0 l).get id = some so → 0 ≤ id ∧ id < 0 + l.length ∧ so.mine = false ∧ OS ν H id so) : HS ν (lsMem (A := stdA fs ov) 0 l) l.length H nx :=
  ⟨fun id so h => ⟨by have := (n3 id so h).2.1; omega, (n3 id so h).2.2.2⟩, fun id r o h => ⟨(n2 id r o h).1, by have := (n2 id r o h).2; omega⟩, fun id id' r o o' so so' h hm => by rw [(n3 id so h).2.2.1] at hm; cases hm⟩
end Go.Rx

set_option linter.unusedSimpArgs false
set_option linter.unusedVariables false
set_option linter.unusedSectionVars false
namespace Go.Rx
open Go
variable {fs : Fs} {ov : Bool} {ν : Nm} {P : Program}

theorem SpecOK.mono {aw d d' g : Nat} {f : List (SV (stdA fs ov)) → SH (stdA fs ov) → Nat → KS (stdA fs ov) → Prop} (h : SpecOK P aw d g f) (hd : d ≤ d') : SpecOK P aw d' g f := fun m hm => h m (by omega)
theorem SpOK.nil {aw d : Nat} : SpOK (fs := fs) (ov := ov) P aw d [] := fun x hx => by cases hx
theorem SpOK.cons {aw d g : Nat} {f : List (SV (stdA fs ov)) → SH (stdA fs ov) → Nat → KS (stdA fs ov) → Prop} {l : SpL (stdA fs ov)} (h : SpecOK P aw d g f) (h' : SpOK P aw d l) : SpOK P aw d ((g, f) :: l) := fun x hx => by
  rcases List.mem_cons.1 hx with rfl | hx
  · exact h
  · exact h' x hx
theorem SpOK.mono {aw d d' : Nat} {l : SpL (stdA fs ov)} (h : SpOK P aw d l) (hd : d ≤ d') : SpOK P aw d' l := fun x hx => (h x hx).mono hd
theorem LoopsAll.mono {aw d d' : Nat} {lp : FuncId → LoopS (stdA fs ov)} (h : LoopsAll P aw d lp) (hd : d ≤ d') : LoopsAll P aw d' lp := fun m hm => h m (by omega)
section
variable {aw m L n : Nat} (hmix : P.follows .mixedOrders = true) (hname : ∀ (g : Nat) (fn : Func) (c : Code), P.funcs[g]? = some fn → fn.body = some c → (fn.name == "runtime.NumGoroutine") = false) (haw : yields P L [] n aw [] (.b true) = true)
include hmix hname haw
theorem CN_ok : CallOK P (CN P aw m) := by
  have ht : TabOK P [(aw, [([], .b true)])] := tab_one hmix hname tab_none haw
  exact known_ok ht (evKnown_ok hmix hname ht m)
/-- A call of the run that returns true is one of the machine. -/
theorem law_calls {g : Nat} {args : List LV} {H : Hp} {nx : Nat} (h : Pure P aw m g args H nx (.b true)) {R : Ren} {w : World} {vs : List Value} (hR : Rel R H w) (hv : VRL R args vs) (hf : ∀ id, nx ≤ id → R id = none) :
    Calls P g vs.toArray w fun e w' => e = .returned (.bool true) ∧ Go.RowKit.Below w.heap.size w w' := by
  obtain ⟨r, h1, h2, h3, h4, h5, h6⟩ := h
  have := ((CN_ok (m := m) hmix hname haw) (.f g) args H nx r h1 R w vs hR hv (fun id hid _ => hf id hid)).2
  have := (callsIn_wide (n := 0)).1 (show CallsIn Fence.wide 0 P g vs.toArray w _ from this 0)
  refine this.mono ?_
  rintro e w' ⟨u, rfl, R', hx, _, hu⟩
  rw [h3] at hu
  rw [show u = .bool true from hu]
  rw [h5] at hx
  exact ⟨rfl, hx.quiet.os, hx.quiet.tape, hx.quiet.output, hx.size, fun b hb => hx.keep b hb fun id hid => by cases hid⟩
end
theorem rel_empty {w : World} : Rel (fun _ => none) .l w := ⟨fun id o ho => by simp [Tr.get_l] at ho, fun id id' o o' b c c' h1 => by simp [Tr.get_l] at h1⟩
theorem vrl_ints {R : Ren} : ∀ (l : List Int), VRL R (l.map (LV.i .i64)) (l.map (Value.int .i64))
  | [] => rfl
  | x :: l => VRL.cons rfl (vrl_ints l)
theorem vr_agg {R : Ren} (l : List Int) : VR R (.agg (l.map (LV.i .i64))) (.agg (l.map (Value.int .i64)).toArray) := ⟨_, rfl, by simpa using vrl_ints l⟩
theorem cond_iff {p : Prop} [Decidable p] {a b : Prop} : (cond (decide p) a b) = ((p → a) ∧ (¬ p → b)) := by
  by_cases h : p <;> simp [h]
theorem cond_not {b : Bool} {x y : Prop} : (cond (!b) x y) = cond b y x := by cases b <;> rfl
theorem InK64 {n : Int} : InK .i64 n = (-9223372036854775808 ≤ n ∧ n ≤ 9223372036854775807) := rfl
end Go.Rx

set_option linter.unusedSimpArgs false
set_option linter.unusedVariables false
set_option linter.unusedSectionVars false
namespace Go.Rx
open Go
variable {fs : Fs} {ov : Bool} {ν : Nm} {P : Program} {W : Nat → Prop}

/-! ### What a text writes of the frame -/
theorem putT_frame {L L' : Tr LV} {N : Nat} {dst : Option Tmp} {v : LV} (h : putT L N dst v = some L') {t : Nat} (ht : ∀ d, dst = some d → t ≠ d) : L'.get t = L.get t := by
  cases dst with
  | none => simp [putT] at h; rw [← h]
  | some d =>
    simp only [putT] at h
    cases hb : Nat.blt d N
    · simp [hb] at h
    · simp [hb, Tr.force_eq] at h
      rw [← h, Tr.get_set_ne _ _ (ht d rfl)]
theorem dsts_cons {o : Oper} {l : List Oper} {t : Nat} (h : t ∉ dsts (o :: l)) : (∀ d, o.dst = some d → t ≠ d) ∧ t ∉ dsts l := by
  simp only [dsts] at h
  cases hd : o.dst with
  | none => rw [hd] at h; exact ⟨(fun d e => by cases e), h⟩
  | some d =>
    rw [hd] at h
    simp only [List.mem_cons, not_or] at h
    exact ⟨fun d' e => by cases e; exact h.1, h.2⟩
theorem evOps_frame {call : CallT} {ops : Array Oper} {t : Nat} : ∀ {l : List Oper} {s s' : Rx.S}, evOps P call ops l s = some s' → t ∉ dsts l → s'.T.get t = s.T.get t
  | [], s, s', h, _ => by simp [evOps] at h; rw [h]
  | o :: l, s, s', h, ht => by
    obtain ⟨h1, h2⟩ := dsts_cons ht
    rcases evOps_cons h with ⟨_, T', hp, h'⟩ | ⟨_, r, T', _, _, _, hp, h'⟩
    · rw [evOps_frame h' h2]; exact putT_frame hp h1
    · rw [evOps_frame h' h2]; exact putT_frame hp h1
theorem evDrawn_frame {call : CallT} {ops : Array Oper} {ms : Tr Nat} {H₀ : Hp} {t : Nat} : ∀ {l : List Oper} {k : Nat} {s s' : Rx.S} {g g' : Log}, evDrawn P call ops ms H₀ l k s g = some (s', g') → t ∉ dsts l → s'.T.get t = s.T.get t
  | [], k, s, s', g, g', h, _ => by simp [evDrawn] at h; rw [h.1]
  | o :: l, k, ⟨T, N, H₁, nx, wr, df, mx⟩, s', ⟨ds, hl, fl⟩, g', h, ht => by
    obtain ⟨h1, h2⟩ := dsts_cons ht
    simp only [evDrawn] at h
    split at h
    · cases h
    · split at h
      · rename_i T' hp
        rw [nN_eq] at h
        rw [evDrawn_frame h h2]; exact putT_frame hp h1
      · cases h
    · split at h
      · cases h
      · rw [Tr.force_eq] at h
        split at h
        · cases h
        · cases hb : (Nat.ble nx _ && Nat.ble _ _ && allIn _ nx _ && quietWith _ _ _ fl hl) <;> rw [hb] at h
          · cases h
          · simp only [cond_true] at h
            split at h
            · rename_i T' hp
              simp only [nN_eq] at h
              rw [evDrawn_frame h h2]; exact putT_frame hp h1
            · cases h
theorem evRegion_frame {call : CallT} {ops : Array Oper} {draw : Bool} {t : Nat} {s s' : Rx.S} {e : Ex} (h : evRegion P call ops draw s = some (e, s')) (ht : t ∉ dsts ops.toList) : s'.T.get t = s.T.get t := by
  have h' := (evRegion_up h).2.2
  cases draw with
  | true =>
    simp only [if_true] at h'
    obtain ⟨ms, s'', g, hr, hd, rfl⟩ := evDraw_eq h'
    have := evDrawn_frame (t := t) hd ht
    exact this
  | false =>
    simp only [Bool.false_eq_true, if_false] at h'
    exact evOps_frame h' ht
theorem evLoop_frame {f : Rx.S → Option (Ex × Rx.S)} {t : Nat} (hf : ∀ s e s', f s = some (e, s') → s'.T.get t = s.T.get t) : ∀ {n : Nat} {s s' : Rx.S} {e : Ex}, evLoop n f s = some (e, s') → s'.T.get t = s.T.get t
  | 0, s, s', e, h => by cases h
  | n + 1, s, s', e, h => by
    simp only [evLoop] at h
    split at h
    · rename_i s1 h1
      rw [evLoop_frame hf h, hf _ _ _ h1]
    · exact hf _ _ _ h
theorem evRange_frame {call : CallT} {ro : Option Nat} {f : Operand} {ps : Array Tmp} {as body : Code} {s s' : Rx.S} {e : Ex} (h : evRange call ro f ps as body s = some (e, s')) : s'.T = s.T := by
  obtain ⟨T, N, H, d, wr, df, mx⟩ := s
  simp only [evRange] at h
  split at h
  · split at h
    · simp only [nN_eq, Tr.force_eq] at h
      obtain ⟨r', st, pend, N', T', ps', as', body', d', _, _, hle, _, _, rfl⟩ := endRange_ok h
      rfl
    · split at h
      · simp only [nN_eq, Tr.force_eq] at h
        obtain ⟨r', st, pend, N', T', ps', as', body', d', _, _, hle, _, _, rfl⟩ := endRange_ok h
        rfl
      · cases h
  · cases h
theorem evC_frame {call : CallT} {ro : Option Nat} {L : Nat} {t : Nat} : ∀ {c : Code} {s s' : Rx.S} {e : Ex}, evC P call ro L c s = some (e, s') → t ∉ writes c → s'.T.get t = s.T.get t
  | .skip, s, s', e, h, _ => by simp [evC] at h; rw [h.2]
  | .region _ ops draw, s, s', e, h, ht => evRegion_frame (by simpa only [evC] using h) ht
  | .seq x y, s, s', e, h, ht => by
    simp only [writes, List.mem_append, not_or] at ht
    simp only [evC] at h
    cases hx : evC P call ro L x s with
    | none => simp [hx] at h
    | some q =>
      obtain ⟨e1, s1⟩ := q
      have h1 := evC_frame hx ht.1
      cases e1 <;> simp only [hx] at h
      case normal => rw [evC_frame h ht.2, h1]
      all_goals (simp at h; obtain ⟨_, rfl⟩ := h; exact h1)
  | .cond c x y, s, s', e, h, ht => by
    simp only [writes, List.mem_append, not_or] at ht
    simp only [evC] at h
    split at h
    · exact evC_frame h ht.1
    · exact evC_frame h ht.2
    · cases h
  | .block id c, s, s', e, h, ht => by
    simp only [evC] at h
    cases hx : evC P call ro L c s with
    | none => simp [hx] at h
    | some q =>
      obtain ⟨e1, s1⟩ := q
      have h1 := evC_frame hx ht
      cases e1 <;> simp only [hx] at h
      case exit j =>
        cases hb : Nat.beq j id <;> simp [hb] at h <;> obtain ⟨_, rfl⟩ := h <;> exact h1
      all_goals (simp at h; obtain ⟨_, rfl⟩ := h; exact h1)
  | .loop c, s, s', e, h, ht => by
    simp only [evC] at h
    exact evLoop_frame (f := fun s => evC P call ro L c s) (fun s e s' h => evC_frame h ht) h
  | .rangeFunc f ps as body, s, s', e, h, _ => by rw [evRange_frame (by simpa only [evC] using h)]
  | .exit id, s, s', e, h, _ => by simp [evC] at h; rw [h.2]
  | .scope c, s, s', e, h, ht => by
    simp only [evC] at h
    cases hx : evC P call ro L c s with
    | none => simp [hx] at h
    | some q =>
      obtain ⟨e1, s1⟩ := q
      have h1 := evC_frame hx ht
      cases e1 <;> simp [hx] at h <;> obtain ⟨_, rfl⟩ := h <;> exact h1
  | .label l, s, s', e, h, _ => by simp [evC] at h; rw [h.2]
  | .goto l, s, s', e, h, _ => by simp [evC] at h; rw [h.2]
  | .ret, s, s', e, h, _ => by simp [evC] at h; rw [h.2]
  | .refuse _, s, s', e, h, _ => by simp [evC] at h

/-! ### The rule -/
theorem get_wipe {α : Type} (T : Al α) : ∀ (ws : List Nat) (t : Nat), (wipe ws T).get t = if t ∈ ws then none else T.get t
  | [], t => by simp [wipe]
  | x :: ws, t => by
    simp only [wipe, Al.get_set, get_wipe T ws t]
    by_cases e : t = x
    · simp [e]
    · simp [e]
theorem get_push {α : Type} (T : Al α) : ∀ {l : List (Nat × α)} {t : Nat} {v : α}, (push l T).get t = some v → (t, v) ∈ l ∨ ((∀ x ∈ l, x.1 ≠ t) ∧ T.get t = some v)
  | [], t, v, h => .inr ⟨(fun x hx => by cases hx), h⟩
  | (k, x) :: l, t, v, h => by
    simp only [push, Al.get_set] at h
    split at h
    · rename_i e; subst e; cases h; exact .inl (by simp)
    · rename_i e
      rcases get_push T h with h | ⟨h1, h2⟩
      · exact .inl (by simp [h])
      · refine .inr ⟨fun x hx => ?_, h2⟩
        rcases List.mem_cons.1 hx with rfl | hx
        · exact fun h => e h.symm
        · exact h1 x hx
theorem subW_ok {l m : List Nat} (h : subW l m = true) : ∀ id ∈ l, id ∈ m := by
  induction l with
  | nil => intro id hid; cases hid
  | cons x l ih =>
    simp only [subW, Bool.and_eq_true] at h
    intro id hid
    rcases List.mem_cons.1 hid with rfl | hid
    · simpa using h.1
    · exact ih h.2 id hid
theorem gets_ok {α : Type} {T : Al α} : ∀ {ts : List Nat} {vs : List α}, gets T ts = some vs → ∀ x ∈ ts.zip vs, T.get x.1 = some x.2
  | [], vs, h, x, hx => by simp at hx
  | t :: ts, vs, h, x, hx => by
    simp only [gets] at h
    cases h1 : T.get t with
    | none => simp [h1] at h
    | some v =>
      cases h2 : gets T ts with
      | none => simp [h1, h2] at h
      | some r =>
        simp [h1, h2] at h; subst h
        simp only [List.zip_cons_cons, List.mem_cons] at hx
        rcases hx with rfl | hx
        · exact h1
        · exact gets_ok h2 x hx
section
variable {s : SS (stdA fs ov)} {S : Rx.S} {c : Code} {B : List Nat}
/-- What has been read off a later state holds of the state that is laid anew. -/
theorem sim_hd {ν' : Nm} {s' : SS (stdA fs ov)} {S' : Rx.S} {W' W0 : Nat → Prop} (hs : Sim W0 ν s S) (hx : XT ν (⟨s.T, s.N, s.H, s.nx, []⟩ : SS (stdA fs ov)) S ν' s' S') (hs' : Sim W' ν' s' S') (hfr : ∀ t, t ∉ writes c → S'.T.get t = S.T.get t) (hN : S'.N = S.N) (hw : ∀ id ∈ s'.wr, id < s.nx → id ∈ B)
    {sl : List (Nat × SV (stdA fs ov))} {bl : List (Nat × SO (stdA fs ov))} (h1 : ∀ x ∈ sl, s'.T.get x.1 = some x.2 ∧ x.2.lt s.nx = true) (h2 : ∀ x ∈ bl, s'.H.get x.1 = some x.2 ∧ x.2.lt s.nx = true) (hB : ∀ id ∈ B, ∃ x ∈ bl, x.1 = id) (hBm : ∀ id ∈ B, ∃ so, s.H.get id = some so ∧ so.mine = true) (hbm : ∀ x ∈ bl, x.1 ∈ B ∧ x.2.mine = true)
    {wr : List Nat} (hwr : ∀ q ∈ S'.wr, W q ∨ ∃ id ∈ wr, ∃ o, ν id = some (q, o)) (hup : ∀ q, S'.nx ≤ q → W q) : Sim W ν (hdS c s sl bl wr) S' := by
  refine ⟨hN.trans hs.N, ⟨fun t v hv => ?_⟩, ⟨fun id so hg => ?_, fun id r o h => ?_, fun id id' r o o' so so' hg hm hg' h3 h4 => ?_⟩, hs'.mx, hwr, hup⟩
  · rcases get_push _ hv with hv | ⟨_, hv⟩
    · obtain ⟨a, b⟩ := h1 _ hv
      obtain ⟨lv, d, e⟩ := hs'.T.at_ t v a
      exact ⟨lv, d, vs_low hx.lo b e⟩
    · rw [get_wipe] at hv
      split at hv
      · cases hv
      · rename_i hn
        obtain ⟨lv, a, b⟩ := hs.T.at_ t v hv
        exact ⟨lv, by rw [hfr t hn]; exact a, b⟩
  · rcases get_push _ hg with hg | ⟨hno, hg⟩
    · obtain ⟨a, b⟩ := h2 _ hg
      obtain ⟨so1, c1, _⟩ := hBm id (hbm _ hg).1
      have hid := (hs.H.at_ id so1 c1).1
      exact ⟨hid, (hs'.H.at_ id so a).2.low hx.lo hid b⟩
    · obtain ⟨a, b⟩ := hs.H.at_ id so hg
      refine ⟨a, b.same fun r o lo hr hl => ?_⟩
      have hrS := (hs.H.lt id r o hr).1
      rw [hx.keepS r hrS fun id2 hid2 o2 he => ?_]
      · exact hl
      · by_cases hlt : id2 < s.nx
        · have hB2 := hw id2 hid2 hlt
          obtain ⟨so2, c1, c2⟩ := hBm id2 hB2
          rw [hx.lo id2 hlt] at he
          have := hs.H.inj id2 id r o2 o so2 so c1 c2 hg he hr
          subst this
          obtain ⟨x, d1, d2⟩ := hB id2 hB2
          exact hno x d1 d2
        · rcases hx.nw id2 r o2 (by show s.nx ≤ id2; omega) he with h9 | ⟨id0, h9, hlt0, o9, he0⟩
          · omega
          · have hB2 := hw id0 h9 hlt0
            obtain ⟨so2, c1, c2⟩ := hBm id0 hB2
            rw [hx.lo id0 hlt0] at he0
            have := hs.H.inj id0 id r o9 o so2 so c1 c2 hg he0 hr
            subst this
            obtain ⟨x, d1, d2⟩ := hB id0 hB2
            exact hno x d1 d2
  · have h' := hs.H.lt id r o h
    exact ⟨Nat.lt_of_lt_of_le h'.1 hx.up, h'.2⟩
  · have hid : ∃ so1, s.H.get id = some so1 ∧ so1.mine = true := by
      rcases get_push _ hg with hg | ⟨_, hg⟩
      · exact hBm id (hbm _ hg).1
      · exact ⟨so, hg, hm⟩
    obtain ⟨so1, c1, c2⟩ := hid
    obtain ⟨so3, c3⟩ : ∃ so3, s.H.get id' = some so3 := by
      rcases get_push _ hg' with hg' | ⟨_, hg'⟩
      · obtain ⟨so3, c3, _⟩ := hBm id' (hbm _ hg').1; exact ⟨so3, c3⟩
      · exact ⟨so', hg'⟩
    exact hs.H.inj id id' r o o' so1 so3 c1 c2 c3 h3 h4
theorem ltO_ok {n : Nat} : ∀ {os : List (SO (stdA fs ov))}, ltO n os = true → ∀ o ∈ os, o.lt n = true
  | [], _, o, h => by cases h
  | x :: l, h, o, ho => by
    simp only [ltO, Bool.and_eq_true] at h
    rcases List.mem_cons.1 ho with rfl | ho
    · exact h.1
    · exact ltO_ok h.2 o ho
theorem ltL_ok {n : Nat} : ∀ {vs : List (SV (stdA fs ov))}, SV.ltL n vs = true → ∀ o ∈ vs, o.lt n = true
  | [], _, o, h => by cases h
  | x :: l, h, o, ho => by
    simp only [SV.ltL, Bool.and_eq_true] at h
    rcases List.mem_cons.1 ho with rfl | ho
    · exact h.1
    · exact ltL_ok h.2 o ho
theorem loop_rule {cs : CallS (stdA fs ov)} {call : CallT} (hc : CallSOK cs call) {root : Code} {lp : LpG (stdA fs ov)} {L U : Nat} {ro : Option Nat} (hl : CtxOK P call L root lp ro) (hU : U ≤ L) {p : List Bool} (hp : codeAt root p = some (.loop c))
    {X : Type} {Inv : X → Prop} {μ : X → Nat} {ts : Ex → List Nat} {sl : X → List (SV (stdA fs ov))} {bl : X → List (SO (stdA fs ov))} {Q : Ex → List (SV (stdA fs ov)) → List (SO (stdA fs ov)) → Prop} {K : Ex → SS (stdA fs ov) → Prop}
    (hbl : ∀ x, (bl x).length = B.length ∧ ∀ o ∈ bl x, o.mine = true) (hBm : ∀ id ∈ B, ∃ so, s.H.get id = some so ∧ so.mine = true)
    (hb : ∀ x, Inv x → sCode P cs lp U (false :: p) c (hdS c s ((ts .normal).zip (sl x)) (B.zip (bl x)) []) (outK s.nx ts B fun e vs os => match e with
      | .normal => ∃ x', Inv x' ∧ μ x' < μ x ∧ vs = sl x' ∧ os = bl x'
      | e => os.length = B.length ∧ (∀ o ∈ os, o.mine = true) ∧ Q e vs os))
    (hK : ∀ e vs os, e ≠ .normal → Q e vs os → K e (hdS c s ((ts e).zip vs) (B.zip os) (addW B s.wr)))
    {W : Nat → Prop} {ν : Nm} {S : Rx.S} {x : X} (hx : Inv x) (hμ : μ x < L) (h1 : ∀ y ∈ (ts .normal).zip (sl x), s.T.get y.1 = some y.2 ∧ y.2.lt s.nx = true) (h2 : ∀ y ∈ B.zip (bl x), s.H.get y.1 = some y.2 ∧ y.2.lt s.nx = true) (hs : Sim W ν s S) : GoC W ν s S K (evLoop L (fun s => evC P call ro L c s) S) := by
  have mem_zip : ∀ {os : List (SO (stdA fs ov))}, os.length = B.length → ∀ id ∈ B, ∃ y ∈ B.zip os, y.1 = id := by
    intro os ho id hid
    obtain ⟨i, hi, rfl⟩ := List.getElem_of_mem hid
    exact ⟨(B[i], os[i]'(by omega)), by rw [List.mem_iff_getElem]; exact ⟨i, by simp; omega, by simp⟩, rfl⟩
  have zip_mine : ∀ {os : List (SO (stdA fs ov))}, (∀ o ∈ os, o.mine = true) → ∀ y ∈ B.zip os, y.1 ∈ B ∧ y.2.mine = true := fun hm y hy => by
    obtain ⟨a, b⟩ := y
    exact ⟨(List.of_mem_zip hy).1, hm b (List.of_mem_zip hy).2⟩
  have hB1 : ∀ id ∈ B, id < s.nx := fun id hid => by obtain ⟨so, h, _⟩ := hBm id hid; exact (hs.H.at_ id so h).1
  have hnw : ∀ id q o, s.nx ≤ id → ν id = some (q, o) → S.nx ≤ q := fun id q o h1 h2 => by have := (hs.H.lt id q o h2).2; omega
  -- the rounds, from a head state on
  have key : ∀ (n : Nat) (x : X) (S1 : Rx.S), Inv x → μ x < n → XT ν (⟨s.T, s.N, s.H, s.nx, []⟩ : SS (stdA fs ov)) S ν (hdS c s ((ts .normal).zip (sl x)) (B.zip (bl x)) B) S1 → (∀ t, t ∉ writes c → S1.T.get t = S.T.get t) → Sim (fun q => q ∈ S1.wr ∨ S1.nx ≤ q) ν (hdS c s ((ts .normal).zip (sl x)) (B.zip (bl x)) []) S1 → (∀ q ∈ S1.wr, q ∈ S.wr ∨ S.nx ≤ q ∨ ∃ id ∈ B, ∃ o, ν id = some (q, o)) → GoC W ν s S K (evLoop n (fun s => evC P call ro L c s) S1) := by
    intro n
    induction n with
    | zero => intro x S1 _ h; omega
    | succ n ih =>
      intro x S1 hi hm hxt hfr hsim hwr
      obtain ⟨e, S2, ν2, s2, k1, k2, k3, k4⟩ := sCode_ok (ro := ro) hc hl.hl hl.hr hl.hroot hU hl.hro (hb x hi) (by simp [codeAt, hp]) hsim
      simp only [outK] at k4
      split at k4
      · rename_i vs os hvs hos
        cases hbb : (Nat.ble s.nx s2.nx && subW (below s.nx s2.wr) B && SV.ltL s.nx vs && ltO s.nx os) with
        | false => simp only [hbb, cond_false] at k4 <;> exact k4.elim
        | true =>
          simp only [hbb, cond_true] at k4
          simp only [Bool.and_eq_true] at hbb
          obtain ⟨⟨⟨hn, hw⟩, hvl⟩, hol⟩ := hbb
          have hw : ∀ id ∈ s2.wr, id < s.nx → id ∈ B := fun id h1 h2 => subW_ok hw id (mem_below.2 ⟨h1, h2⟩)
          have hfr2 : ∀ t, t ∉ writes c → S2.T.get t = S.T.get t := fun t ht => by rw [evC_frame k1 ht, hfr t ht]
          have hup := evC_up k1
          have hN : S2.N = S.N := by
            have a := hup.N; have b := hsim.N; have d := hs.N
            rw [a, b, d]
          -- from the entry on
          have hx2 : XT ν (⟨s.T, s.N, s.H, s.nx, []⟩ : SS (stdA fs ov)) S ν2 ⟨s2.T, s2.N, s2.H, s2.nx, ap' B s2.wr⟩ S2 := by
            have k2' : XT ν (hdS c s ((ts .normal).zip (sl x)) (B.zip (bl x)) B) S1 ν2 ⟨s2.T, s2.N, s2.H, s2.nx, ap' B s2.wr⟩ S2 :=
              ⟨k2.lo, fun id q o h1 h2 => (k2.nw id q o h1 h2).imp_right fun ⟨id0, a1, a2⟩ => ⟨id0, (by rw [ap'_eq]; exact List.mem_append_right _ a1), a2⟩, k2.up, k2.sup, k2.wr, fun id h => (by rw [ap'_eq]; exact List.mem_append_left _ h), fun q hq hn => k2.keepS q hq fun id hid => hn id (by rw [ap'_eq]; exact List.mem_append_right _ hid), k2.keep, k2.has, k2.df⟩
            exact hxt.trans (W := fun q => q ∈ S1.wr ∨ S1.nx ≤ q) ⟨hsim.N, hsim.T, hsim.H, hsim.mx, fun q hq => .inl (.inl hq), fun q hq => .inr hq⟩ k2'
          have hwB : ∀ id ∈ ap' B s2.wr, id < s.nx → id ∈ B := fun id h1 h2 => by
            rw [ap'_eq] at h1
            exact (List.mem_append.1 h1).elim (fun h => h) fun h => hw id h h2
          have hwr2 : ∀ q ∈ S2.wr, q ∈ S.wr ∨ S.nx ≤ q ∨ ∃ id ∈ B, ∃ o, ν id = some (q, o) := fun q hq => by
            rcases k3.wr q hq with (h | h) | ⟨id, h1, o, h2⟩
            · exact hwr q h
            · exact .inr (.inl (Nat.le_trans hxt.up h))
            · by_cases hlt : id < s.nx
              · exact .inr (.inr ⟨id, hw id h1 hlt, o, by rw [← hx2.lo id hlt]; exact h2⟩)
              · rcases hx2.nw id q o (by show s.nx ≤ id; omega) h2 with h3 | ⟨id0, a1, a2, o0, a3⟩
                · exact .inr (.inl h3)
                · exact .inr (.inr ⟨id0, hwB id0 a1 a2, o0, by rw [← hx2.lo id0 a2]; exact a3⟩)
          have lay : ∀ {vs os ts'} {wr : List Nat} {W2 : Nat → Prop}, gets s2.T ts' = some vs → SV.ltL s.nx vs = true → ltO s.nx os = true → os.length = B.length → (∀ o ∈ os, SO.mine o = true) → gets s2.H B = some os → (∀ q ∈ S2.wr, W2 q ∨ ∃ id ∈ wr, ∃ o, ν id = some (q, o)) → (∀ q, S2.nx ≤ q → W2 q) → Sim W2 ν (hdS c s (ts'.zip vs) (B.zip os) wr) S2 := by
            intro vs os ts' wr W2 a1 b1 b2 a2 a3 a4 a5 a6
            exact sim_hd (W := W2) (B := B) hs hx2 (W' := fun q => q ∈ S2.wr ∨ S2.nx ≤ q) ⟨k3.N, k3.T, k3.H, k3.mx, fun q hq => .inl (.inl hq), fun q hq => .inr hq⟩ hfr2 hN hwB (fun y hy => ⟨gets_ok a1 y hy, ltL_ok b1 _ (List.of_mem_zip (show (y.1, y.2) ∈ _ from hy)).2⟩) (fun y hy => ⟨gets_ok a4 y hy, ltO_ok b2 _ (List.of_mem_zip (show (y.1, y.2) ∈ _ from hy)).2⟩) (mem_zip a2) hBm (zip_mine a3) a5 a6
          have same : ∀ {s3 : SS (stdA fs ov)} {s4 : SS (stdA fs ov)}, s3.nx = s.nx → s4.nx = s.nx → (∀ id ∈ s3.wr, id ∈ s4.wr) → (∀ id ∈ B, id ∈ s4.wr) → XT ν s3 S ν s4 S2 := fun {s3 s4} a1 a2 a3 a4 =>
            ⟨fun _ _ => rfl, fun id q o h1 h2 => .inl (hnw id q o (by rw [← a1]; exact h1) h2), hx2.up, by rw [a1, a2]; exact Nat.le_refl _, hx2.wr, a3, fun q hq hn => hx2.keepS q hq fun id hid o he => by
              by_cases hlt : id < s.nx
              · rw [hx2.lo id hlt] at he
                exact hn id (a4 id (hwB id hid hlt)) o he
              · rcases hx2.nw id q o (by show s.nx ≤ id; omega) he with h3 | ⟨id0, b1, b2, o0, b3⟩
                · omega
                · rw [hx2.lo id0 b2] at b3
                  exact hn id0 (a4 id0 (hwB id0 b1 b2)) o0 b3, hx2.keep, hx2.has, hx2.df.re fun d id o hd h => absurd (hs.H.lt id d o h).1 (by omega)⟩
          have stop : e ≠ .normal → os.length = B.length → (∀ o ∈ os, SO.mine o = true) → Q e vs os → GoC W ν s S K (some (e, S2)) := fun he a2 a3 hQ => by
            refine ⟨e, S2, ν, hdS c s ((ts e).zip vs) (B.zip os) (addW B s.wr), rfl, same rfl rfl (fun id hid => mem_addW.2 (.inr hid)) (fun id hid => mem_addW.2 (.inl hid)), lay (wr := addW B s.wr) (W2 := W) hvs hvl hol a2 a3 hos (fun q hq => ?_) (fun q hq => hs.wup q (Nat.le_trans hx2.up hq)), hK e vs os he hQ⟩
            rcases hwr2 q hq with h | h | ⟨id, h1, o, h2⟩
            · rcases hs.wr q h with h | ⟨id, h1, o, h2⟩
              · exact .inl h
              · exact .inr ⟨id, mem_addW.2 (.inr h1), o, h2⟩
            · exact .inl (hs.wup q h)
            · exact .inr ⟨id, mem_addW.2 (.inl h1), o, h2⟩
          simp only [evLoop, k1]
          cases e with
          | normal =>
            obtain ⟨x', i1, i2, rfl, rfl⟩ := k4
            have hb' := hbl x'
            exact ih x' S2 i1 (by omega) (same rfl rfl (fun _ h => by cases h) (fun _ h => h)) hfr2 (lay (W2 := fun q => q ∈ S2.wr ∨ S2.nx ≤ q) (wr := []) hvs hvl hol hb'.1 hb'.2 hos (fun q hq => .inl (.inl hq)) (fun q hq => .inr hq)) hwr2
          | exit j => exact stop (by simp) k4.1 k4.2.1 k4.2.2
          | goto j => exact stop (by simp) k4.1 k4.2.1 k4.2.2
          | ret => exact stop (by simp) k4.1 k4.2.1 k4.2.2
      · exact k4.elim
  have h0 : XT ν (⟨s.T, s.N, s.H, s.nx, []⟩ : SS (stdA fs ov)) S ν (⟨s.T, s.N, s.H, s.nx, []⟩ : SS (stdA fs ov)) S := XT.refl hs.H
  have hb' := hbl x
  refine key L x S hx hμ ⟨h0.lo, fun id q o h1 h2 => .inl (hnw id q o h1 h2), h0.up, Nat.le_refl _, h0.wr, (fun _ h => by cases h), (fun q _ _ => rfl), h0.keep, h0.has, h0.df⟩ (fun _ _ => rfl) ?_ fun q hq => .inl hq
  exact sim_hd (W := fun q => q ∈ S.wr ∨ S.nx ≤ q) (B := B) (W' := fun q => q ∈ S.wr ∨ S.nx ≤ q) hs h0 ⟨hs.N, hs.T, hs.H, hs.mx, fun q hq => .inl (.inl hq), fun q hq => .inr hq⟩ (fun _ _ => rfl) rfl (fun _ h => by cases h) h1 h2 (mem_zip hb'.1) hBm (zip_mine hb'.2) (fun q hq => .inl (.inl hq)) (fun q hq => .inr hq)
end
end Go.Rx

set_option linter.unusedSimpArgs false
set_option linter.unusedVariables false
set_option linter.unusedSectionVars false
namespace Go.Rx
open Go
variable {fs : Fs} {ov : Bool} {ν : Nm} {P : Program} {W : Nat → Prop}

theorem samePath_ok : ∀ {p q : List Bool}, samePath p q = true → p = q
  | [], [], _ => rfl
  | x :: p, y :: q, h => by
    simp only [samePath, Bool.and_eq_true] at h
    rw [samePath_ok h.2]
    have := h.1
    cases x <;> cases y <;> simp at this ⊢
  | [], _ :: _, h => by simp [samePath] at h
  | _ :: _, [], h => by simp [samePath] at h
/-- A loop that is told of comes to its end as is told. -/
def LoopOK (P : Program) (aw d g : Nat) (p : List Bool) (rg : Bool) (f : Code → SS (stdA fs ov) → (Ex → SS (stdA fs ov) → Prop) → Prop) : Prop := ∀ m, d ≤ m → ∀ fn c0, P.funcs[g]? = some fn → fn.body = some c0 → ∀ c ro, (rg = false → ro = none) → codeAt c0 p = some (.loop c) → ∀ s K W ν S, f c s K → Sim W ν s S → GoC W ν s S K (evLoop LL (fun s => evC P (CN P aw m) ro LL c s) S)
theorem lpOf_ok {aw d : Nat} : ∀ {l : LpL (stdA fs ov)}, (∀ x ∈ l, LoopOK P aw d x.1 x.2.1 x.2.2.1 x.2.2.2) → LoopsAll P aw d (lpOf l)
  | [], _ => fun _ _ _ _ _ _ _ p rg f h => by cases h
  | (g', p', rg', f') :: l, hl => fun m hm g fn c h1 h2 p rg f h => by
    simp only [lpOf] at h
    cases hb : (Nat.beq g g' && samePath p p')
    · simp only [hb, cond_false] at h
      exact lpOf_ok (fun x hx => hl x (List.mem_cons_of_mem _ hx)) m hm g fn c h1 h2 p rg f h
    · simp only [hb, cond_true, Option.some.injEq, Prod.mk.injEq] at h
      simp only [Bool.and_eq_true, beq_iff] at hb
      obtain ⟨rfl, hp⟩ := hb
      obtain rfl := samePath_ok hp
      obtain ⟨rfl, rfl⟩ := h
      exact hl _ List.mem_cons_self m hm fn c h1 h2
theorem body_of {g : Nat} {p : List Bool} {fn : Func} {c0 c : Code} (h1 : P.funcs[g]? = some fn) (h2 : fn.body = some c0) (h3 : codeAt c0 p = some (.loop c)) : bodyAt P g p = c := by
  simp only [bodyAt, h1, h2, h3]
/-- What is known of a state may be laid on its head. -/
theorem sim_push {s : SS (stdA fs ov)} {S : Rx.S} (hs : Sim W ν s S) {kt : List (Nat × SV (stdA fs ov))} {kr : List (Nat × SO (stdA fs ov))} (h1 : ∀ x ∈ kt, s.T.get x.1 = some x.2) (h2 : ∀ x ∈ kr, s.H.get x.1 = some x.2) : Sim W ν ⟨push kt s.T, s.N, push kr s.H, s.nx, s.wr⟩ S := by
  have g1 : ∀ {t v}, (push kt s.T).get t = some v → s.T.get t = some v := fun h => by
    rcases get_push _ h with h | h
    · exact h1 _ h
    · exact h.2
  have g2 : ∀ {id so}, (push kr s.H).get id = some so → s.H.get id = some so := fun h => by
    rcases get_push _ h with h | h
    · exact h2 _ h
    · exact h.2
  exact ⟨hs.N, ⟨fun t v hv => hs.T.at_ t v (g1 hv)⟩, ⟨fun id so hg => hs.H.at_ id so (g2 hg), hs.H.lt, fun id id' r o o' so so' hg hm hg' => hs.H.inj id id' r o o' so so' (g2 hg) hm (g2 hg')⟩, hs.mx, hs.wr, hs.wup⟩
/-- Of the frame of a range over a function less may be told. -/
theorem sim_frm {s : SS (stdA fs ov)} {S : Rx.S} (hs : Sim W ν s S) {id g N : Nat} {p : List Bool} {T : Al (SV (stdA fs ov))} {b : Bool} {e : Ex} {kt : List (Nat × SV (stdA fs ov))} (hg : s.H.get id = some (.frm g p N T b e)) (h1 : ∀ x ∈ kt, T.get x.1 = some x.2) : Sim W ν ⟨s.T, s.N, s.H.set id (some (.frm g p N (push kt .l) b e)), s.nx, s.wr⟩ S := by
  have g1 : ∀ {t v}, (push kt (.l : Al (SV (stdA fs ov)))).get t = some v → T.get t = some v := fun h => by
    rcases get_push _ h with h | h
    · exact h1 _ h
    · exact absurd h.2 (by simp [Al.get_l])
  refine ⟨hs.N, hs.T, ⟨fun id' so hg' => ?_, hs.H.lt, fun id1 id2 r o o' so so' h2 hm h3 => ?_⟩, hs.mx, hs.wr, hs.wup⟩
  · rw [Al.get_set] at hg'
    split at hg'
    · rename_i q; subst q; cases hg'
      obtain ⟨hlt, r, ps, as, body, d, L, a1, a2, a3, a4⟩ := hs.H.at_ _ _ hg
      exact ⟨hlt, r, ps, as, body, d, L, a1, a2, ⟨fun t v h => a3.at_ t v (g1 h)⟩, a4⟩
    · exact hs.H.at_ id' so hg'
  · have old : ∀ {i x}, (s.H.set id (some (.frm g p N (push kt .l) b e))).get i = some x → ∃ y, s.H.get i = some y ∧ (x.mine = true → y.mine = true) := fun {i x} h => by
      rw [Al.get_set] at h
      split at h
      · rename_i q; subst q; cases h; exact ⟨_, hg, fun _ => rfl⟩
      · exact ⟨x, h, fun h => h⟩
    obtain ⟨y1, z1, z2⟩ := old h2
    obtain ⟨y2, z3, _⟩ := old h3
    exact hs.H.inj id1 id2 r o o' y1 y2 z1 (z2 hm) z3
theorem goC_push {s : SS (stdA fs ov)} {S : Rx.S} {K : Ex → SS (stdA fs ov) → Prop} {x : Option (Ex × Rx.S)} {kt : List (Nat × SV (stdA fs ov))} {kr : List (Nat × SO (stdA fs ov))} (h : GoC W ν (⟨push kt s.T, s.N, push kr s.H, s.nx, s.wr⟩ : SS (stdA fs ov)) S K x) : GoC W ν s S K x := GoC.know (s := s) (s' := ⟨push kt s.T, s.N, push kr s.H, s.nx, s.wr⟩) ⟨rfl, rfl⟩ h
end Go.Rx
