/-
  A symbolic run: what it says of calls that only read. No program.
-/
import Derived.Test.YtohpjhplofimjaaYj
set_option linter.unusedSimpArgs false
set_option linter.unusedVariables false
set_option linter.unusedSectionVars false
namespace Go.Rx
open Go
variable {fs : Fs} {ov : Bool} {ν : Nm} {P : Program}

/-- Rounds of a loop, at most. -/
abbrev LL : Nat := 18446744073709551616
/-- The run of calls, with the one call that is known. -/
noncomputable def CN (P : Program) (aw : FuncId) (n : Nat) : CallT := known [(aw, [([], .b true)])] (evKnown P LL [(aw, [([], .b true)])] n)
theorem CN_step {aw n g : Nat} (h : g ≠ aw) : CN P aw (n + 1) (.f g) = evStep P LL (CN P aw n) (.f g) := by
  funext as H nx
  have hb : Nat.beq g aw = false := (beq_false _ _).2 h
  simp only [CN, known, look, hb, cond_false]
  rfl
theorem CN_awake {aw n : Nat} {H : Hp} {nx : Nat} : CN P aw n (.f aw) [] H nx = some ⟨⟨.b true, H, nx, []⟩, nx⟩ := by
  have hb : Nat.beq aw aw = true := Nat.beq_refl _
  simp [CN, known, look, lookIn, hb, sameL]
/-- A call that leaves memory as it is. -/
def Pure (P : Program) (aw m g : Nat) (args : List LV) (H : Hp) (nx : Nat) (lv : LV) : Prop := ∃ r, CN P aw m (.f g) args H nx = some r ∧ nx ≤ r.mx ∧ r.o.v = lv ∧ r.o.nx = nx ∧ r.o.wr = [] ∧ ∀ q, q < nx → r.o.H.get q = H.get q
/-- What is told of a function, in the symbolic run. -/
def SpecOK (P : Program) (aw d g : Nat) (f : List (SV (stdA fs ov)) → SH (stdA fs ov) → Nat → KS (stdA fs ov) → Prop) : Prop := ∀ m, d ≤ m → ∀ args M snx K, f args M snx K → ∀ ν largs H nx, VSL ν args largs → HS ν M snx H nx → GotOp ν snx H nx K (CN P aw m (.f g) largs H nx)
abbrev SpL (A : Alg) := List (Nat × (List (SV A) → SH A → Nat → KS A → A.R))
noncomputable def spOf {A : Alg} : SpL A → SpecS A
  | [], _ => none
  | (g, f) :: l, g' => bif Nat.beq g' g then some f else spOf l g'
def SpOK (P : Program) (aw d : Nat) (l : SpL (stdA fs ov)) : Prop := ∀ x ∈ l, SpecOK P aw d x.1 x.2
theorem spOf_ok {l : SpL (stdA fs ov)} {g : Nat} {f} (h : spOf l g = some f) : (g, f) ∈ l := by
  induction l with
  | nil => cases h
  | cons x l ih =>
    obtain ⟨g', f'⟩ := x
    simp only [spOf] at h
    cases hb : Nat.beq g g'
    · simp only [hb, cond_false] at h; exact List.mem_cons_of_mem _ (ih h)
    · simp only [hb, cond_true, Option.some.injEq] at h
      rw [(beq_iff _ _).1 hb, h]; exact List.mem_cons_self
/-- The call of the chapter's examples, which returns true. -/
abbrev awakeS {A : Alg} : List (SV A) → SH A → Nat → KS A → A.R := fun args M snx K => match args with | [] => K (.b (A.ofB true)) M snx [] | _ => A.fail "awake"
theorem awake_ok {aw d : Nat} : SpecOK (fs := fs) (ov := ov) P aw d aw awakeS := by
  intro m _ args M snx K h ν largs H nx ha hM
  cases args with
  | cons x l => exact h.elim
  | nil =>
    rw [show largs = [] from ha, CN_awake]
    exact ⟨_, rfl, Nat.le_refl _, _, ν, .b true, M, snx, [], rfl, got_same hM rfl, h⟩
theorem pure_got {aw m g : Nat} {largs : List LV} {H : Hp} {nx : Nat} {lv : LV} (h : Pure P aw m g largs H nx lv) {M : SH (stdA fs ov)} {snx : Nat} {K : KS (stdA fs ov)} {v : SV (stdA fs ov)} (hM : HS ν M snx H nx) (hv : VS ν v lv) (hK : K v M snx []) : GotOp ν snx H nx K (CN P aw m (.f g) largs H nx) := by
  obtain ⟨r, h1, h2, h3, h4, h5, h6⟩ := h
  refine ⟨r, h1, by rw [h4]; exact h2, _, ν, v, M, snx, [], rfl, ⟨fun _ _ => rfl, fun id q o a b => (by have := (hM.lt id q o b).2; omega), by rw [h4]; exact Nat.le_refl _, Nat.le_refl _, ?_, by rw [h3]; exact hv, fun q hq => (by rw [h5] at hq; cases hq), fun q hq _ => h6 q hq, fun q hq => (by rw [h5] at hq; cases hq), fun e => absurd h4 e⟩, hK⟩
  exact hM.same h6 (by rw [h4]; exact Nat.le_refl _)
def LoopsAll (P : Program) (aw d : Nat) (lp : FuncId → LoopS (stdA fs ov)) : Prop := ∀ m, d ≤ m → ∀ g fn c, P.funcs[g]? = some fn → fn.body = some c → LoopsOK P (CN P aw m) LL c (lp g)
/-- No loop is told of. -/
abbrev noLoop {A : Alg} : FuncId → LoopS A := fun _ _ => none
theorem noLoop_ok {aw d : Nat} : LoopsAll (fs := fs) (ov := ov) P aw d noLoop := fun _ _ _ _ _ _ _ p f h => by cases h
theorem sCall_ok {aw d U : Nat} {l : SpL (stdA fs ov)} {lp : FuncId → LoopS (stdA fs ov)} (hsp : SpOK P aw d l) (haw : (spOf l aw).isSome = true) (hlp : LoopsAll P aw d lp) (hU : U ≤ LL) : ∀ n, CallSOK (sCall P U (spOf l) lp n) (CN P aw (n + d))
  | 0 => fun g args M snx K h => h.elim
  | n + 1 => fun g args M snx K h ν largs H nx ha hM => by
    simp only [sCall] at h
    cases hf : spOf l g with
    | some f =>
      simp only [hf] at h
      exact hsp _ (spOf_ok hf) _ (by omega) args M snx K h ν largs H nx ha hM
    | none =>
      simp only [hf] at h
      have hg : g ≠ aw := fun e => by rw [e] at hf; rw [hf] at haw; cases haw
      rw [show n + 1 + d = n + d + 1 by omega, CN_step hg]
      exact sFunc_ok (sCall_ok hsp haw hlp hU n) (fun g fn c h1 h2 => hlp _ (by omega) g fn c h1 h2) hU h ha hM
/-- The end of a call that only reads. -/
structure doneK (lv : LV) (n : Nat) (v : SV (stdA fs ov)) (M : SH (stdA fs ov)) (snx' : Nat) (wr : List Nat) : Prop where
  v : ∀ (ν : Nm) (lv' : LV), VS ν v lv' → lv' = lv
  n : snx' = n
  w : wr = []
/-- A call whose symbolic run, from given names, gives a value without names and has written nothing. -/
theorem pure_of {aw d U n g : Nat} {l : SpL (stdA fs ov)} {lp : FuncId → LoopS (stdA fs ov)} (hsp : SpOK P aw d l) (haw : (spOf l aw).isSome = true) (hlp : LoopsAll P aw d lp) (hU : U ≤ LL) (hg : g ≠ aw) {m : Nat} (hm : m = n + d + 1)
    {args : List (SV (stdA fs ov))} {M : SH (stdA fs ov)} {snx : Nat} {lv : LV} (h : sFunc P U (sCall P U (spOf l) lp n) lp g args M snx (doneK lv snx))
    {ν : Nm} {largs : List LV} {H : Hp} {nx : Nat} (ha : VSL ν args largs) (hM : HS ν M snx H nx) : Pure P aw m g largs H nx lv := by
  subst hm
  obtain ⟨r, h1, h2, o, ν', v, M', snx', wr, e, hG, ⟨hv, hs, hw⟩⟩ := sFunc_ok (sCall_ok hsp haw hlp hU n) (fun g fn c h1 h2 => hlp (n + d) (by omega) g fn c h1 h2) hU h ha hM
  cases e
  subst hs hw
  rw [← CN_step hg] at h1
  have hn : r.o.nx = nx := by
    by_cases e : r.o.nx = nx
    · exact e
    · exact absurd rfl (hG.same e)
  have hw : r.o.wr = [] := by
    cases hq : r.o.wr with
    | nil => rfl
    | cons q l => obtain ⟨id, hid, _⟩ := hG.wr q (by rw [hq]; simp); cases hid
  exact ⟨r, h1, by rw [← hn]; exact h2, hv _ _ hG.v, hn, hw, fun q hq => hG.keep q hq (by rw [hw]; simp)⟩
theorem hs_empty {H : Hp} {nx : Nat} : HS (fs := fs) (ov := ov) (fun _ => none) .l 0 H nx := ⟨fun id so h => (by simp [Al.get_l] at h), fun id r o h => (by cases h), fun id id' r o o' so h => by simp [Al.get_l] at h⟩

/-! ### Lists that came in -/
structure IsL (H : Hp) (nx : Nat) (ks : List CK) (h : Ll) (lv : LV) : Prop where
  rows : ∀ x ∈ h, x.length = ks.length
  at_ : (lv = .nils ∧ h = []) ∨ ∃ r o lo, r < nx ∧ H.get r = some lo ∧ RD lo o ks h ∧ ((o = 0 ∧ lv = .gs r 0 0 h.length) ∨ ∃ cap, h.length ≤ cap ∧ lv = .sl r o h.length cap)
noncomputable def lsMem {A : Alg} : Nat → List (List CK × A.L) → SH A
  | _, [] => .l
  | k, (ks, h) :: r => (lsMem (k + 1) r).set k (some (.list 0 ks false h))
theorem ls_in {H : Hp} {nx : Nat} : ∀ {l : List (List CK × Ll)} {lvs : List LV} (k : Nat), (∀ (i : Nat) (x : List CK × Ll) (lv : LV), l[i]? = some x → lvs[i]? = some lv → IsL H nx x.1 x.2 lv) → l.length = lvs.length →
    ∃ ν : Nm, (∀ id, id < k ∨ k + l.length ≤ id → ν id = none) ∧ (∀ id r o, ν id = some (r, o) → r < nx ∧ id < k + l.length) ∧ (∀ id so, (lsMem (A := stdA fs ov) k l).get id = some so → k ≤ id ∧ id < k + l.length ∧ so.mine = false ∧ OS ν H id so) ∧ ∀ i x lv, l[i]? = some x → lvs[i]? = some lv → VS (fs := fs) (ov := ov) ν (.ls false (k + i) (x.2.length : Int)) lv
  | [], lvs, k, h, hl => ⟨fun _ => none, fun _ _ => rfl, fun _ _ _ h => (by cases h), fun id so h => (by simp [lsMem, Al.get_l] at h), fun i x lv h => by simp at h⟩
  | (ks, hh) :: l, [], k, h, hl => by simp at hl
  | (ks, hh) :: l, lv0 :: lvs, k, h, hl => by
    obtain ⟨ν, n1, n2, n3, n4⟩ := ls_in (l := l) (lvs := lvs) (k + 1) (fun i x lv h1 h2 => h (i + 1) x lv (by simpa using h1) (by simpa using h2)) (by simpa using hl)
    have h0 := h 0 _ _ rfl rfl
    have hk : ν k = none := n1 k (.inl (by omega))
    have hle : ∀ x : Option (Nat × Nat), NLe ν (updN ν k x) := fun x id y hy => by rw [updN_ne fun e => by subst e; rw [hk] at hy; cases hy]; exact hy
    have rest : ∀ (x : Option (Nat × Nat)), (∀ r o, x = some (r, o) → r < nx) → VS (fs := fs) (ov := ov) (updN ν k x) (.ls false k (hh.length : Int)) lv0 → OS (fs := fs) (ov := ov) (updN ν k x) H k (.list 0 ks false hh) →
        ∃ ν : Nm, (∀ id, id < k ∨ k + (l.length + 1) ≤ id → ν id = none) ∧ (∀ id r o, ν id = some (r, o) → r < nx ∧ id < k + (l.length + 1)) ∧ (∀ id so, (lsMem (A := stdA fs ov) k ((ks, hh) :: l)).get id = some so → k ≤ id ∧ id < k + (l.length + 1) ∧ so.mine = false ∧ OS ν H id so) ∧ ∀ i x lv, ((ks, hh) :: l)[i]? = some x → (lv0 :: lvs)[i]? = some lv → VS (fs := fs) (ov := ov) ν (.ls false (k + i) (x.2.length : Int)) lv := fun x hx hv hO => by
      refine ⟨updN ν k x, fun id hid => ?_, fun id r o hr => ?_, fun id so hg => ?_, fun i y lv hi hlv => ?_⟩
      · rw [updN_ne (by omega)]; exact n1 id (by omega)
      · by_cases e : id = k
        · subst e; rw [updN_same] at hr; exact ⟨hx r o hr, by omega⟩
        · rw [updN_ne e] at hr; have := n2 id r o hr; omega
      · simp only [lsMem, Al.get_set] at hg
        split at hg
        · rename_i e; subst e; cases hg; exact ⟨by omega, by omega, rfl, hO⟩
        · rename_i e
          obtain ⟨a, b, c, d⟩ := n3 id so hg
          exact ⟨by omega, by omega, c, d.sub (hle x) (updN_ne e) fun _ _ _ _ h => h⟩
      · cases i with
        | zero => simp at hi hlv; subst hi hlv; exact hv
        | succ i =>
          have := (n4 i y lv (by simpa using hi) (by simpa using hlv)).mono (hle x)
          rwa [show k + (i + 1) = k + 1 + i by omega]
    obtain ⟨hr, ⟨rfl, rfl⟩ | ⟨r, o, lo, a1, a2, a3, a4⟩⟩ := h0
    · exact rest none (fun _ _ h => by cases h) ⟨by simp, .inl ⟨rfl, by simp⟩⟩ ⟨hr, .inl rfl, fun h => by cases h⟩
    · refine rest (some (r, o)) (fun _ _ h => by cases h; exact a1) ⟨Int.natCast_nonneg _, .inr ⟨r, o, updN_same, ?_⟩⟩ ⟨hr, .inr ⟨r, o, lo, updN_same, a2, a3⟩, fun h => by cases h⟩
      rcases a4 with ⟨rfl, rfl⟩ | ⟨cap, b1, rfl⟩
      · exact .inl ⟨rfl, by simp⟩
      · exact .inr ⟨rfl, cap, by simpa using b1, by simp⟩
theorem hs_in {H : Hp} {nx : Nat} {l : List (List CK × Ll)} {ν : Nm} (n2 : ∀ id r o, ν id = some (r, o) → r < nx ∧ id < 0 + l.length) (n3 : ∀ id so, (lsMem (A := stdA fs ov) 0 l).get id = some so → 0 ≤ id ∧ id < 0 + l.length ∧ so.mine = false ∧ OS ν H id so) : HS ν (lsMem (A := stdA fs ov) 0 l) l.length H nx :=
  ⟨fun id so h => ⟨by have := (n3 id so h).2.1; omega, (n3 id so h).2.2.2⟩, fun id r o h => ⟨(n2 id r o h).1, by have := (n2 id r o h).2; omega⟩, fun id id' r o o' so h hm => by rw [(n3 id so h).2.2.1] at hm; cases hm⟩
end Go.Rx
