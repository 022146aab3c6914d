/-
  A symbolic run: loops whose lists are appended to. No program.
  A symbolic run: the rule of loops whose lists are appended to. No program.
  A symbolic run: loops whose lists are appended to, by invariants. No program.
  A symbolic run: arguments and results that are lists. No program.
-/
import Derived.Test.YtfjilbjofaommaaYn
set_option linter.unusedSimpArgs false
set_option linter.unusedVariables false
set_option linter.unusedSectionVars false
namespace Go.Rx
open Go
variable {fs : Fs} {ov : Bool} {ν : Nm} {P : Program} {W : Nat → Prop}

/-- The names at a loop's head: lists have the first names that are free. -/
def nuL (ν ν' : Nm) (N : Nat) (ids : List (Option Nat)) : Nm := fun id => if id < N then ν id else match ids[id - N]? with | some (some j) => ν' j | _ => none
theorem nuL_lo {ν' : Nm} {N id : Nat} {ids : List (Option Nat)} (h : id < N) : nuL ν ν' N ids id = ν id := by simp [nuL, h]
theorem nuL_at {ν' : Nm} {N i j : Nat} {ids : List (Option Nat)} (h : ids[i]? = some (some j)) : nuL ν ν' N ids (N + i) = ν' j := by
  show (if N + i < N then ν (N + i) else match ids[N + i - N]? with | some (some j) => ν' j | _ => none) = _
  rw [if_neg (by omega), Nat.add_sub_cancel_left, h]
theorem nuL_src {ν' : Nm} {N id : Nat} {ids : List (Option Nat)} {x : Nat × Nat} (hN : N ≤ id) (h : nuL ν ν' N ids id = some x) : ∃ i j, id = N + i ∧ ids[i]? = some (some j) ∧ ν' j = some x := by
  simp only [nuL, if_neg (show ¬ id < N by omega)] at h
  split at h
  · rename_i j hj; exact ⟨id - N, j, by omega, hj, h⟩
  · cases h
/-- The names that lists had: distinct, new or to be moved. -/
structure IdsOK (N : Nat) (mv : List Nat) (ids : List (Option Nat)) : Prop where
  dis : ∀ (i j id : Nat), ids[i]? = some (some id) → ids[j]? = some (some id) → i = j
  src : ∀ (i id : Nat), ids[i]? = some (some id) → N ≤ id ∨ id ∈ mv
theorem IdsOK.nil {N : Nat} {mv : List Nat} : IdsOK N mv [] := ⟨fun i j id h => by simp at h, fun i id h => by simp at h⟩
theorem IdsOK.add0 {N : Nat} {mv : List Nat} {ids : List (Option Nat)} (h : IdsOK N mv ids) : IdsOK N mv (ids ++ [none]) := by
  have e : ∀ (i id : Nat), (ids ++ [none])[i]? = some (some id) → ids[i]? = some (some id) := fun i id hi => by
    rw [List.getElem?_append] at hi
    split at hi
    · exact hi
    · cases hk : i - ids.length with
      | zero => rw [hk] at hi; simp at hi
      | succ k => rw [hk] at hi; simp at hi
  exact ⟨fun i j id h1 h2 => h.dis i j id (e _ _ h1) (e _ _ h2), fun i id h1 => h.src i id (e _ _ h1)⟩
theorem IdsOK.one {N : Nat} {mv : List Nat} {ids : List (Option Nat)} {id0 : Nat} (h : IdsOK N mv ids) (hn : some id0 ∉ ids) (h0 : N ≤ id0 ∨ id0 ∈ mv) : IdsOK N mv (ids ++ [some id0]) := by
  have e : ∀ (i id : Nat), (ids ++ [some id0])[i]? = some (some id) → ids[i]? = some (some id) ∧ i < ids.length ∨ i = ids.length ∧ id = id0 := fun i id hi => by
    rw [List.getElem?_append] at hi
    split at hi
    · exact .inl ⟨hi, by assumption⟩
    · cases hk : i - ids.length with
      | zero => rw [hk] at hi; simp at hi; exact .inr ⟨by omega, hi.symm⟩
      | succ k => rw [hk] at hi; simp at hi
  refine ⟨fun i j id h1 h2 => ?_, fun i id h1 => ?_⟩
  · rcases e _ _ h1 with ⟨a, _⟩ | ⟨a, a'⟩ <;> rcases e _ _ h2 with ⟨b, _⟩ | ⟨b, b'⟩
    · exact h.dis i j id a b
    · subst b'; exact absurd (List.mem_of_getElem? a) hn
    · subst a'; exact absurd (List.mem_of_getElem? b) hn
    · omega
  · rcases e _ _ h1 with ⟨a, _⟩ | ⟨_, rfl⟩
    · exact h.src i id a
    · exact h0
theorem can_rest {ν' : Nm} {N : Nat} {mv : List Nat} {F : List (Option Nat)} (hlo : ∀ id, id < N → ν id = ν' id) {v v' : SV (stdA fs ov)} {ids ids' : List (Option Nat)} (h : (bif v.lt N then some (v, ids) else none) = some (v', ids')) (hi : IdsOK N mv ids) :
    IdsOK N mv ids' ∧ (∃ r, ids' = ids ++ r) ∧ ((∃ r, F = ids' ++ r) → ∀ lv, VS ν' v lv → VS (nuL ν ν' N F) v' lv) := by
  cases hb : v.lt N with
  | false => rw [hb] at h; cases h
  | true =>
    rw [hb] at h
    simp only [cond_true, Option.some.injEq, Prod.mk.injEq] at h
    obtain ⟨rfl, rfl⟩ := h
    exact ⟨hi, ⟨[], by simp⟩, fun _ lv hv => vs_low (n := N) (fun id hid => by rw [nuL_lo hid]; exact (hlo id hid).symm) hb hv⟩
mutual
theorem can_ok {ν' : Nm} {N : Nat} {mv : List Nat} {F : List (Option Nat)} (hlo : ∀ id, id < N → ν id = ν' id) : ∀ {v v' : SV (stdA fs ov)} {ids ids' : List (Option Nat)}, SV.can N mv v ids = some (v', ids') → IdsOK N mv ids →
    IdsOK N mv ids' ∧ (∃ r, ids' = ids ++ r) ∧ ((∃ r, F = ids' ++ r) → ∀ lv, VS ν' v lv → VS (nuL ν ν' N F) v' lv)
  | .nils, v', ids, ids', h, hi => by
    simp only [SV.can, Option.some.injEq, Prod.mk.injEq] at h
    obtain ⟨rfl, rfl⟩ := h
    refine ⟨hi.add0, ⟨_, rfl⟩, fun _ lv hv => ?_⟩
    obtain rfl := hv
    exact ⟨Int.le_refl _, .inl ⟨rfl, rfl⟩⟩
  | .ls own id n, v', ids, ids', h, hi => by
    cases own with
    | false =>
      simp only [SV.can] at h
      cases hb : SV.lt (A := stdA fs ov) N (.ls false id n) with
      | false => rw [hb] at h; cases h
      | true =>
        rw [hb] at h
        simp only [cond_true, Option.some.injEq, Prod.mk.injEq] at h
        obtain ⟨rfl, rfl⟩ := h
        exact ⟨hi, ⟨[], by simp⟩, fun _ lv hv => vs_low (n := N) (fun id hid => by rw [nuL_lo hid]; exact (hlo id hid).symm) hb hv⟩
    | true =>
      simp only [SV.can] at h
      cases hb : (Nat.ble N id || List.elem id mv) with
      | false =>
        rw [hb] at h
        simp only [cond_false, Option.some.injEq, Prod.mk.injEq] at h
        obtain ⟨rfl, rfl⟩ := h
        have hid : id < N := by
          simp only [Bool.or_eq_false_iff] at hb
          have := hb.1
          rw [← Bool.not_eq_true] at this; simp at this; exact this
        refine ⟨hi, ⟨[], by simp⟩, fun _ lv hv => ?_⟩
        show LSr (nuL ν ν' N F id) true n lv
        rw [nuL_lo hid, hlo id hid]; exact hv
      | true =>
        rw [hb] at h
        simp only [cond_true] at h
        cases he : List.elem (some id) ids with
        | true => rw [he] at h; cases h
        | false =>
          rw [he] at h
          simp only [cond_false, Option.some.injEq, Prod.mk.injEq] at h
          obtain ⟨rfl, rfl⟩ := h
          have hn : some id ∉ ids := fun hm => by
            have := List.elem_eq_true_of_mem hm; rw [this] at he; cases he
          refine ⟨hi.one hn (by
            simp only [Bool.or_eq_true] at hb
            exact hb.imp (fun h => by simpa using h) (fun h => by simpa using h)), ⟨_, rfl⟩, fun ⟨r, hF⟩ lv hv => ?_⟩
          show LSr (nuL ν ν' N F (N + ids.length)) true n lv
          rw [nuL_at (j := id) (by rw [hF]; simp)]; exact hv
  | .agg l, v', ids, ids', h, hi => by
    simp only [SV.can] at h
    split at h
    · rename_i l' ids1 hl
      cases h
      obtain ⟨h1, h2, h3⟩ := canL_ok (F := F) hlo hl hi
      refine ⟨h1, h2, fun hF lv hv => ?_⟩
      obtain ⟨ll, rfl, hll⟩ := hv
      exact ⟨ll, rfl, h3 hF ll hll⟩
    · cases h
  | .b x, v', ids, ids', h, hi => by
    exact can_rest (v := .b x) hlo (by simpa only [SV.can] using h) hi
  | .i k x, v', ids, ids', h, hi => can_rest (v := .i k x) hlo (by simpa only [SV.can] using h) hi
  | .s x, v', ids, ids', h, hi => can_rest (v := .s x) hlo (by simpa only [SV.can] using h) hi
  | .nilp, v', ids, ids', h, hi => can_rest (v := .nilp) hlo (by simpa only [SV.can] using h) hi
  | .p a b, v', ids, ids', h, hi => can_rest (v := .p a b) hlo (by simpa only [SV.can] using h) hi
  | .pe a b c d, v', ids, ids', h, hi => can_rest (v := .pe a b c d) hlo (by simpa only [SV.can] using h) hi
  | .sl a b c d, v', ids, ids', h, hi => can_rest (v := .sl a b c d) hlo (by simpa only [SV.can] using h) hi
  | .fn a b c, v', ids, ids', h, hi => can_rest (v := .fn a b c) hlo (by simpa only [SV.can] using h) hi
  | .yld a, v', ids, ids', h, hi => can_rest (v := .yld a) hlo (by simpa only [SV.can] using h) hi
  | .nilf, v', ids, ids', h, hi => can_rest (v := .nilf) hlo (by simpa only [SV.can] using h) hi
  | .nili, v', ids, ids', h, hi => can_rest (v := .nili) hlo (by simpa only [SV.can] using h) hi
  | .tup a, v', ids, ids', h, hi => can_rest (v := .tup a) hlo (by simpa only [SV.can] using h) hi
theorem canL_ok {ν' : Nm} {N : Nat} {mv : List Nat} {F : List (Option Nat)} (hlo : ∀ id, id < N → ν id = ν' id) : ∀ {l l' : List (SV (stdA fs ov))} {ids ids' : List (Option Nat)}, SV.canL N mv l ids = some (l', ids') → IdsOK N mv ids →
    IdsOK N mv ids' ∧ (∃ r, ids' = ids ++ r) ∧ ((∃ r, F = ids' ++ r) → ∀ lv, VSL ν' l lv → VSL (nuL ν ν' N F) l' lv)
  | [], l', ids, ids', h, hi => by
    simp only [SV.canL, Option.some.injEq, Prod.mk.injEq] at h
    obtain ⟨rfl, rfl⟩ := h
    exact ⟨hi, ⟨[], by simp⟩, fun _ lv hv => hv⟩
  | v :: l, l', ids, ids', h, hi => by
    simp only [SV.canL] at h
    split at h
    · rename_i v1 ids1 h1
      split at h
      · rename_i l1 ids2 h2
        cases h
        obtain ⟨a1, ⟨r1, a2⟩, a3⟩ := can_ok (F := F) hlo h1 hi
        obtain ⟨b1, ⟨r2, b2⟩, b3⟩ := canL_ok (F := F) hlo h2 a1
        refine ⟨b1, ⟨r1 ++ r2, by rw [b2, a2, List.append_assoc]⟩, fun hF lv hv => ?_⟩
        obtain ⟨y, r, rfl, c1, c2⟩ := hv
        exact VSL.cons (a3 (by obtain ⟨r, e⟩ := hF; exact ⟨r2 ++ r, by rw [e, b2, List.append_assoc]⟩) y c1) (b3 hF r c2)
      · cases h
    · cases h
end
end Go.Rx

set_option linter.unusedSimpArgs false
set_option linter.unusedVariables false
set_option linter.unusedSectionVars false
namespace Go.Rx
open Go
variable {fs : Fs} {ov : Bool} {ν : Nm} {P : Program} {W : Nat → Prop}

theorem gets_vsl {T : Al (SV (stdA fs ov))} {L : Tr LV} (hF : FS ν T L) : ∀ {ts : List Nat} {vs : List (SV (stdA fs ov))}, gets T ts = some vs → ∃ lvs, VSL ν vs lvs ∧ ∀ (i t : Nat), ts[i]? = some t → ∃ lv, lvs[i]? = some lv ∧ L.get t = some lv
  | [], vs, h => by simp [gets] at h; subst h; exact ⟨[], rfl, fun i t h => by simp at h⟩
  | t :: ts, vs, h => by
    simp only [gets] at h
    cases h1 : T.get t with
    | none => simp [h1] at h
    | some v =>
      cases h2 : gets T ts with
      | none => simp [h1, h2] at h
      | some r =>
        simp [h1, h2] at h; subst h
        obtain ⟨lv, a1, a2⟩ := hF.at_ t v h1
        obtain ⟨lvs, b1, b2⟩ := gets_vsl hF h2
        refine ⟨lv :: lvs, VSL.cons a2 b1, fun i t' hi => ?_⟩
        cases i with
        | zero => simp at hi; subst hi; exact ⟨lv, by simp, a1⟩
        | succ i => simpa using b2 i t' (by simpa using hi)
theorem canO_ok {ν' : Nm} {N : Nat} {mv : List Nat} {F : List (Option Nat)} (hlo : ∀ id, id < N → ν id = ν' id) : ∀ {l l' : List (SO (stdA fs ov))} {ids ids' : List (Option Nat)}, canO N mv l ids = some (l', ids') → IdsOK N mv ids →
    IdsOK N mv ids' ∧ (∃ r, ids' = ids ++ r) ∧ l'.length = l.length ∧ ∀ (i : Nat) (o1 : SO (stdA fs ov)), l'[i]? = some o1 → ∃ o, l[i]? = some o ∧ o1.mine = o.mine ∧ ((∃ r, F = ids' ++ r) → ∀ (H : Hp) (id : Nat), id < N → OS ν' H id o → OS (nuL ν ν' N F) H id o1)
  | [], l', ids, ids', h, hi => by
    simp only [canO, Option.some.injEq, Prod.mk.injEq] at h
    obtain ⟨rfl, rfl⟩ := h
    exact ⟨hi, ⟨[], by simp⟩, rfl, fun i o1 h => by simp at h⟩
  | .row t cs :: l, l', ids, ids', h, hi => by
    simp only [canO] at h
    split at h
    · rename_i cs1 ids1 h1
      split at h
      · rename_i l1 ids2 h2
        cases h
        obtain ⟨a1, ⟨r1, a2⟩, a3⟩ := canL_ok (F := F) hlo h1 hi
        obtain ⟨b1, ⟨r2, b2⟩, b3, b4⟩ := canO_ok (F := F) hlo h2 a1
        refine ⟨b1, ⟨r1 ++ r2, by rw [b2, a2, List.append_assoc]⟩, by simp [b3], fun i o1 ho => ?_⟩
        cases i with
        | zero =>
          simp at ho; subst ho
          refine ⟨.row t cs, by simp, rfl, fun hF H id hid hO => ?_⟩
          obtain ⟨r, lcs, c1, c2, c3⟩ := hO
          exact ⟨r, lcs, by rw [nuL_lo hid, hlo id hid]; exact c1, c2, a3 (by obtain ⟨r, e⟩ := hF; exact ⟨r2 ++ r, by rw [e, b2, List.append_assoc]⟩) lcs c3⟩
        | succ i => simpa using b4 i o1 (by simpa using ho)
      · cases h
    · cases h
  | .list t ks own g :: l, l', ids, ids', h, hi => by
    simp only [canO] at h
    split at h
    · rename_i l1 ids2 h2
      cases h
      obtain ⟨b1, b2, b3, b4⟩ := canO_ok (F := F) hlo h2 hi
      refine ⟨b1, b2, by simp [b3], fun i o1 ho => ?_⟩
      cases i with
      | zero =>
        simp at ho; subst ho
        refine ⟨.list t ks own g, by simp, rfl, fun hF H id hid hO => ?_⟩
        exact OS.low (n := N) (fun id hid => by rw [nuL_lo hid]; exact (hlo id hid).symm) hid rfl hO
      | succ i => simpa using b4 i o1 (by simpa using ho)
    · cases h
  | .frm g p n T b e :: l, l', ids, ids', h, hi => by
    simp only [canO] at h
    cases hb : Al.ltT N T with
    | false => rw [hb] at h; cases h
    | true =>
      rw [hb, cond_true] at h
      split at h
      · rename_i l1 ids2 h2
        cases h
        obtain ⟨b1, b2, b3, b4⟩ := canO_ok (F := F) hlo h2 hi
        refine ⟨b1, b2, by simp [b3], fun i o1 ho => ?_⟩
        cases i with
        | zero =>
          simp at ho; subst ho
          refine ⟨.frm g p n T b e, by simp, rfl, fun hF H id hid hO => ?_⟩
          exact OS.low (n := N) (fun id hid => by rw [nuL_lo hid]; exact (hlo id hid).symm) hid hb hO
        | succ i => simpa using b4 i o1 (by simpa using ho)
      · cases h
theorem listsOf_ok {H : SH (stdA fs ov)} : ∀ {ids : List (Option Nat)} {ty : List (TypeId × List CK)} {hs : List Ll}, listsOf (A := stdA fs ov) H ids ty = some hs → ids.length ≤ ty.length ∧ hs.length = ty.length ∧
    ∀ (i : Nat) (t : TypeId) (ks : List CK) (h : Ll), ty[i]? = some (t, ks) → hs[i]? = some h → ((∀ j, ids[i]? ≠ some (some j)) ∧ h = []) ∨ ∃ j, ids[i]? = some (some j) ∧ H.get j = some (.list t ks true h)
  | [], [], hs, h => by simp [listsOf] at h; subst h; exact ⟨Nat.le_refl _, rfl, fun i t ks h h1 => by simp at h1⟩
  | [], (t, ks) :: ty, hs, h => by
    simp only [listsOf] at h
    split at h
    · rename_i hs1 h1
      cases h
      obtain ⟨a1, a2, a3⟩ := listsOf_ok h1
      refine ⟨by simp, by simp [a2], fun i t' ks' g h2 h3 => ?_⟩
      cases i with
      | zero => simp at h2 h3; exact .inl ⟨by simp, h3⟩
      | succ i => simpa using a3 i t' ks' g (by simpa using h2) (by simpa using h3)
    · cases h
  | none :: ids, [], hs, h => by simp [listsOf] at h
  | some _ :: ids, [], hs, h => by simp [listsOf] at h
  | none :: ids, (t, ks) :: ty, hs, h => by
    simp only [listsOf] at h
    split at h
    · rename_i hs1 h1
      cases h
      obtain ⟨a1, a2, a3⟩ := listsOf_ok h1
      refine ⟨by simp; omega, by simp [a2], fun i t' ks' g h2 h3 => ?_⟩
      cases i with
      | zero => simp at h2 h3; exact .inl ⟨by simp, h3⟩
      | succ i => simpa using a3 i t' ks' g (by simpa using h2) (by simpa using h3)
    · cases h
  | some id :: ids, (t, ks) :: ty, hs, h => by
    simp only [listsOf] at h
    split at h
    · rename_i t1 ks1 g1 hg
      cases hb : (Nat.beq t1 t && decide (ks1 = ks)) with
      | false => rw [hb] at h; cases h
      | true =>
        rw [hb] at h
        simp only [cond_true] at h
        simp only [Bool.and_eq_true, beq_iff, decide_eq_true_eq] at hb
        obtain ⟨rfl, rfl⟩ := hb
        split at h
        · rename_i hs1 h1
          cases h
          obtain ⟨a1, a2, a3⟩ := listsOf_ok h1
          refine ⟨by simp; omega, by simp [a2], fun i t' ks' g h2 h3 => ?_⟩
          cases i with
          | zero =>
            simp at h2 h3
            obtain ⟨rfl, rfl⟩ := h2
            subst h3
            exact .inr ⟨id, by simp, hg⟩
          | succ i => simpa using a3 i t' ks' g (by simpa using h2) (by simpa using h3)
        · cases h
    · cases h
theorem newLs_mem : ∀ {N : Nat} {ty : List (TypeId × List CK)} {hs : List Ll} {x : Nat × SO (stdA fs ov)}, x ∈ newLs (A := stdA fs ov) N ty hs → ∃ i t ks h, ty[i]? = some (t, ks) ∧ hs[i]? = some h ∧ x = (N + i, .list t ks true h)
  | N, [], hs, x, h => by simp [newLs] at h
  | N, _ :: _, [], x, h => by simp [newLs] at h
  | N, (t, ks) :: ty, h :: hs, x, hx => by
    simp only [newLs, List.mem_cons] at hx
    rcases hx with rfl | hx
    · exact ⟨0, t, ks, h, by simp, by simp, rfl⟩
    · obtain ⟨i, t', ks', h', a, b, rfl⟩ := newLs_mem hx
      exact ⟨i + 1, t', ks', h', by simpa using a, by simpa using b, by rw [show N + 1 + i = N + (i + 1) by omega]⟩
theorem kills_get {H : SH (stdA fs ov)} {so : SO (stdA fs ov)} {id : Nat} : ∀ {mv : List Nat}, (kills mv H).get id = some so → id ∉ mv ∧ H.get id = some so
  | [], h => ⟨by simp, h⟩
  | x :: mv, h => by
    simp only [kills, Al.get_set] at h
    split at h
    · cases h
    · rename_i e
      obtain ⟨a, b⟩ := kills_get h
      exact ⟨by simp [e, a], b⟩
section
variable {s : SS (stdA fs ov)} {S : Rx.S} {c : Code} {B mv : List Nat} {kt : List (Nat × SV (stdA fs ov))} {kr : List (Nat × SO (stdA fs ov))} {ty : List (TypeId × List CK)}
/-- A later state is laid anew: its lists get the first free names. -/
theorem sim_hdL {ν' : Nm} {s' : SS (stdA fs ov)} {S' : Rx.S} {W' W0 : Nat → Prop} (hs : Sim W0 ν s S) (hx : XT ν (⟨s.T, s.N, s.H, s.nx, []⟩ : SS (stdA fs ov)) S ν' s' S') (hs' : Sim W' ν' s' S') (hfr : ∀ t, t ∉ writes c → S'.T.get t = S.T.get t) (hN : S'.N = S.N)
    (hw : ∀ id ∈ s'.wr, id < s.nx → id ∈ B ∨ id ∈ mv) (hmv : ∀ id ∈ mv, ∃ so, s.H.get id = some so ∧ so.mine = true) (hBm : ∀ id ∈ B, ∃ so, s.H.get id = some so ∧ so.mine = true) (hBmv : ∀ id ∈ B, id ∉ mv)
    (hkt : ∀ x ∈ kt, s.T.get x.1 = some x.2) (hkr : ∀ x ∈ kr, s.H.get x.1 = some x.2 ∧ x.1 ∉ mv) {mv' ts : List Nat} (hsub : ∀ id ∈ mv', id ∈ mv) {vs vs1 : List (SV (stdA fs ov))} {os os1 : List (SO (stdA fs ov))} {ids1 ids : List (Option Nat)} {hs1 : List Ll}
    (h1 : gets s'.T ts = some vs) (h2 : gets s'.H B = some os) (h3 : SV.canL s.nx mv' vs [] = some (vs1, ids1)) (h4 : canO s.nx mv' os ids1 = some (os1, ids)) (h5 : listsOf (A := stdA fs ov) s'.H ids ty = some hs1) (hos : ∀ o ∈ os1, o.mine = true)
    {wr : List Nat} (hwr : ∀ q ∈ S'.wr, W q ∨ ∃ id ∈ wr, ∃ o, nuL ν ν' s.nx ids id = some (q, o)) (hup : ∀ q, S'.nx ≤ q → W q) :
    Sim W (nuL ν ν' s.nx ids) (hdL c s.T (kills mv s.H) s.N s.nx kt kr (ts.zip vs1) (B.zip os1) ty hs1 wr) S' := by
  have hlo : ∀ id, id < s.nx → ν id = ν' id := fun id hid => (hx.lo id hid).symm
  have hν : ∀ {id r o}, ν id = some (r, o) → id < s.nx := fun h => (hs.H.lt _ _ _ h).2
  have hle : NLe ν (nuL ν ν' s.nx ids) := fun id x h => by rw [nuL_lo (hν (r := x.1) (o := x.2) h)]; exact h
  obtain ⟨i1, _, i2⟩ := canL_ok (F := ids) hlo h3 IdsOK.nil
  obtain ⟨i3, ⟨r3, i4⟩, i5, i6⟩ := canO_ok (F := ids) hlo h4 i1
  obtain ⟨i7, i8, i9⟩ := listsOf_ok h5
  obtain ⟨lvs, j1, j2⟩ := gets_vsl hs'.T h1
  have j3 := i2 ⟨r3, i4⟩ lvs j1
  have osB : ∀ {id : Nat} {o1 : SO (stdA fs ov)}, (id, o1) ∈ B.zip os1 → id ∈ B ∧ o1.mine = true ∧ ∃ o, s'.H.get id = some o ∧ o.mine = true ∧ OS (nuL ν ν' s.nx ids) S'.H id o1 := fun {id o1} hm => by
    obtain ⟨i, hi, e⟩ := List.getElem_of_mem hm
    have hi' : i < B.length ∧ i < os1.length := by simp at hi; omega
    simp only [List.getElem_zip, Prod.mk.injEq] at e
    obtain ⟨e1, e2⟩ := e
    obtain ⟨o, a1, a2, a3⟩ := i6 i o1 (by rw [← e2]; exact List.getElem?_eq_getElem hi'.2)
    have hid : id ∈ B := by rw [← e1]; exact List.getElem_mem hi'.1
    have ho1 : o1.mine = true := hos o1 (by rw [← e2]; exact List.getElem_mem hi'.2)
    have hg : s'.H.get id = some o := by
      refine gets_ok h2 (id, o) ?_
      rw [List.mem_iff_getElem?]
      exact ⟨i, by rw [List.getElem?_zip_eq_some]; exact ⟨by rw [← e1]; exact List.getElem?_eq_getElem hi'.1, a1⟩⟩
    obtain ⟨so, b1, b2⟩ := hBm id hid
    exact ⟨hid, ho1, o, hg, by rw [← a2]; exact ho1, a3 ⟨[], by simp⟩ S'.H id (hs.H.at_ id so b1).1 (hs'.H.at_ id o hg).2⟩
  -- a block that stays as it was
  have clash : ∀ {id r o so}, s.H.get id = some so → id ∉ mv → id ∉ B → ν id = some (r, o) → ∀ id2 ∈ s'.wr, ∀ o2, ν' id2 ≠ some (r, o2) := fun {id r o so} hg n1 n2 hr id2 hid2 o2 he => by
    have old : ∀ id0 ∈ s'.wr, id0 < s.nx → ∀ o0, ν' id0 ≠ some (r, o0) := fun id0 a1 a2 o0 a3 => by
      rw [← hlo id0 a2] at a3
      rcases hw id0 a1 a2 with h | h
      · obtain ⟨so2, c1, c2⟩ := hBm id0 h
        have := hs.H.inj id0 id r o0 o so2 so c1 c2 hg a3 hr
        subst this; exact n2 h
      · obtain ⟨so2, c1, c2⟩ := hmv id0 h
        have := hs.H.inj id0 id r o0 o so2 so c1 c2 hg a3 hr
        subst this; exact n1 h
    by_cases hlt : id2 < s.nx
    · exact old id2 hid2 hlt o2 he
    · rcases hx.nw id2 r o2 (by show s.nx ≤ id2; omega) he with h9 | ⟨id0, a1, a2, o0, a3⟩
      · have := (hs.H.lt id r o hr).1; omega
      · exact old id0 a1 a2 o0 a3
  have keep : ∀ {id so}, s.H.get id = some so → id ∉ mv → id ∉ B → OS (nuL ν ν' s.nx ids) S'.H id so := fun {id so} hg n1 n2 => by
    obtain ⟨a, b⟩ := hs.H.at_ id so hg
    refine b.sub hle (nuL_lo a) fun r o lo hr hl => ?_
    rw [hx.keepS r (hs.H.lt id r o hr).1 fun id2 hid2 o2 => clash hg n1 n2 hr id2 hid2 o2]
    exact hl
  -- the blocks at the head, of three kinds
  have kinds3 : ∀ {id so}, (push (newLs (A := stdA fs ov) s.nx ty hs1) (push (B.zip os1) (push kr (kills mv s.H)))).get id = some so →
      (∃ i t ks h, ty[i]? = some (t, ks) ∧ hs1[i]? = some h ∧ id = s.nx + i ∧ so = .list t ks true h) ∨ ((id, so) ∈ B.zip os1) ∨ (s.H.get id = some so ∧ id ∉ mv ∧ id ∉ B) := fun {id so} h => by
    rcases get_push _ h with h | ⟨_, h⟩
    · obtain ⟨i, t, ks, g, a, b, e⟩ := newLs_mem h
      cases e
      exact .inl ⟨i, t, ks, g, a, b, rfl, rfl⟩
    · rcases get_push _ h with h | ⟨n, h⟩
      · exact .inr (.inl h)
      · have nB : id ∉ B := fun hid => by
          obtain ⟨i, hi, rfl⟩ := List.getElem_of_mem hid
          have hl : os.length = B.length := by
            have : ∀ {ts : List Nat} {os : List (SO (stdA fs ov))} {H : SH (stdA fs ov)}, gets H ts = some os → os.length = ts.length := by
              intro ts
              induction ts with
              | nil => intro os H h; simp [gets] at h; subst h; rfl
              | cons t ts ih =>
                intro os H h
                simp only [gets] at h
                split at h
                · split at h
                  · rename_i h9; cases h; simp [ih h9]
                  · cases h
                · cases h
            exact this h2
          have hi2 : i < os1.length := by omega
          exact n (B[i], os1[i]) (by rw [List.mem_iff_getElem]; exact ⟨i, by simp; omega, by simp⟩) rfl
        rcases get_push _ h with h | ⟨_, h⟩
        · obtain ⟨a, b⟩ := hkr _ h
          exact .inr (.inr ⟨a, b, nB⟩)
        · obtain ⟨a, b⟩ := kills_get h
          exact .inr (.inr ⟨b, a, nB⟩)
  have isl : ∀ {i t ks h}, ty[i]? = some (t, ks) → hs1[i]? = some h → ∀ r o, nuL ν ν' s.nx ids (s.nx + i) = some (r, o) → ∃ j, ids[i]? = some (some j) ∧ s'.H.get j = some (.list t ks true h) ∧ ν' j = some (r, o) := fun {i t ks h} a b r o hn => by
    obtain ⟨i', j, e, k1, k2⟩ := nuL_src (by omega) hn
    obtain rfl : i = i' := by omega
    rcases i9 i t ks h a b with ⟨c1, _⟩ | ⟨j', c1, c2⟩
    · exact absurd k1 (c1 j)
    · rw [c1] at k1; cases k1
      exact ⟨j, c1, c2, k2⟩
  have nolist : ∀ {i j id so r o o'}, ids[i]? = some (some j) → (∃ so', s'.H.get j = some so' ∧ so'.mine = true) → ν' j = some (r, o) → ((id, so) ∈ B.zip os1) ∨ (s.H.get id = some so ∧ id ∉ mv ∧ id ∉ B) → ν id = some (r, o') → False := fun {i j id so r o o'} k1 ⟨so', k2, k3⟩ k4 hd hr => by
    have hjsrc := i3.src i j k1
    have hid := hν hr
    rcases hd with hd | ⟨g1, g2, g3⟩
    · obtain ⟨hB, _, o2, g1, g2, _⟩ := osB hd
      have := hs'.H.inj j id r o o' so' o2 k2 k3 g1 k4 (by rw [← hlo id hid]; exact hr)
      subst this
      rcases hjsrc with h | h
      · omega
      · exact hBmv j hB (hsub j h)
    · by_cases hj : j < s.nx
      · have hjm : j ∈ mv := hsub j (hjsrc.resolve_left (by omega))
        obtain ⟨so2, c1, c2⟩ := hmv j hjm
        rw [← hlo j hj] at k4
        have := hs.H.inj j id r o o' so2 so c1 c2 g1 k4 hr
        subst this; exact g2 hjm
      · rcases hx.nw j r o (by show s.nx ≤ j; omega) k4 with h9 | ⟨id0, a1, a2, o0, a3⟩
        · have := (hs.H.lt id r o' hr).1; omega
        · exact clash g1 g2 g3 hr id0 a1 o0 a3
  refine ⟨hN.trans hs.N, ⟨fun t v hv => ?_⟩, ⟨fun id so hg => ?_, fun id r o h => ?_, fun id id' r o o' so so' hg hm hg' k1 k2 => ?_⟩, hs'.mx, hwr, hup⟩
  · rcases get_push _ hv with hv | ⟨_, hv⟩
    · obtain ⟨i, hi, e⟩ := List.getElem_of_mem hv
      have hi' : i < ts.length ∧ i < vs1.length := by simp at hi; omega
      simp only [List.getElem_zip, Prod.mk.injEq] at e
      obtain ⟨e1, e2⟩ := e
      obtain ⟨lv, a1, a2⟩ := j3.get (k := i) (x := v) (by rw [← e2]; exact List.getElem?_eq_getElem hi'.2)
      obtain ⟨lv', b1, b2⟩ := j2 i t (by rw [← e1]; exact List.getElem?_eq_getElem hi'.1)
      rw [a1] at b1; cases b1
      exact ⟨lv, b2, a2⟩
    · rw [get_wipe] at hv
      split at hv
      · cases hv
      · rename_i hn
        have hv : s.T.get t = some v := by
          rcases get_push _ hv with h | h
          · exact hkt _ h
          · exact h.2
        obtain ⟨lv, a, b⟩ := hs.T.at_ t v hv
        exact ⟨lv, by rw [hfr t hn]; exact a, b.mono hle⟩
  · rcases kinds3 hg with ⟨i, t, ks, h, a, b, rfl, rfl⟩ | hd | ⟨a, b, d⟩
    · have hi : i < ty.length := (List.getElem?_eq_some_iff.1 a).1
      refine ⟨by show s.nx + i < s.nx + ty.length; omega, ?_⟩
      rcases i9 i t ks h a b with ⟨c1, rfl⟩ | ⟨j, c1, c2⟩
      · refine ⟨fun x hx => (by cases hx), .inl rfl, fun _ r o hr => ?_⟩
        obtain ⟨j, e1, _⟩ := isl a b r o hr
        exact absurd e1 (c1 j)
      · have hO := (hs'.H.at_ j _ c2).2
        have e := nuL_at (ν := ν) (ν' := ν') (N := s.nx) c1
        obtain ⟨o1, o2, o3⟩ := hO
        exact ⟨o1, by rw [e]; exact o2, by rw [e]; exact o3⟩
    · obtain ⟨hB, _, o, _, _, hO⟩ := osB hd
      obtain ⟨so2, c1, _⟩ := hBm id hB
      exact ⟨by show id < s.nx + ty.length; have := (hs.H.at_ id so2 c1).1; omega, hO⟩
    · exact ⟨by show id < s.nx + ty.length; have := (hs.H.at_ id so a).1; omega, keep a b d⟩
  · by_cases hid : id < s.nx
    · rw [nuL_lo hid] at h
      exact ⟨Nat.lt_of_lt_of_le (hs.H.lt id r o h).1 hx.up, by show id < s.nx + ty.length; omega⟩
    · obtain ⟨i, j, rfl, b1, b2⟩ := nuL_src (by omega) h
      have hi : i < ids.length := (List.getElem?_eq_some_iff.1 b1).1
      exact ⟨(hs'.H.lt j r o b2).1, by show s.nx + i < s.nx + ty.length; omega⟩
  · have low : ∀ {id so}, ((id, so) ∈ B.zip os1) ∨ (s.H.get id = some so ∧ id ∉ mv ∧ id ∉ B) → ∃ so1, s.H.get id = some so1 ∧ (so.mine = true → so1.mine = true) := fun {id so} hd => by
      rcases hd with hd | hd
      · obtain ⟨so2, c1, c2⟩ := hBm id (osB hd).1; exact ⟨so2, c1, fun _ => c2⟩
      · exact ⟨so, hd.1, fun h => h⟩
    have lt : ∀ {id so}, ((id, so) ∈ B.zip os1) ∨ (s.H.get id = some so ∧ id ∉ mv ∧ id ∉ B) → id < s.nx := fun {id so} hd => by
      obtain ⟨so1, c1, _⟩ := low hd
      exact (hs.H.at_ id so1 c1).1
    rcases kinds3 hg with ⟨i, t, ks, h, a, b, rfl, rfl⟩ | hd
    · obtain ⟨j, c1, c2, c3⟩ := isl a b r o k1
      rcases kinds3 hg' with ⟨i', t', ks', h', a', b', rfl, rfl⟩ | hd'
      · obtain ⟨j', d1, d2, d3⟩ := isl a' b' r o' k2
        have e := hs'.H.inj j j' r o o' _ _ c2 rfl d2 c3 d3
        subst e
        have := i3.dis i i' j c1 d1
        omega
      · rw [nuL_lo (lt hd')] at k2
        exact (nolist c1 ⟨_, c2, rfl⟩ c3 hd' k2).elim
    · have hlt := lt hd
      rw [nuL_lo hlt] at k1
      rcases kinds3 hg' with ⟨i', t', ks', h', a', b', rfl, rfl⟩ | hd'
      · obtain ⟨j', d1, d2, d3⟩ := isl a' b' r o' k2
        exact (nolist d1 ⟨_, d2, rfl⟩ d3 hd k1).elim
      · rw [nuL_lo (lt hd')] at k2
        obtain ⟨s1, c1, c2⟩ := low hd
        obtain ⟨s2, d1, _⟩ := low hd'
        exact hs.H.inj id id' r o o' s1 s2 c1 (c2 hm) d1 k1 k2
end
end Go.Rx

set_option linter.unusedSimpArgs false
set_option linter.unusedVariables false
set_option linter.unusedSectionVars false
namespace Go.Rx
open Go
variable {fs : Fs} {ov : Bool} {ν : Nm} {P : Program} {W : Nat → Prop}
variable {s : SS (stdA fs ov)} {S : Rx.S} {c : Code} {B mv : List Nat} {kt : List (Nat × SV (stdA fs ov))} {kr : List (Nat × SO (stdA fs ov))} {ty : List (TypeId × List CK)}
/-- What is read off a state at the entry. -/
structure Ent (s : SS (stdA fs ov)) (ts B mv : List Nat) (ty : List (TypeId × List CK)) (vs1 : List (SV (stdA fs ov))) (os1 : List (SO (stdA fs ov))) (hs1 : List Ll) : Prop where
  go : ∃ vs os ids1 ids, gets s.T ts = some vs ∧ gets s.H B = some os ∧ SV.canL s.nx mv vs [] = some (vs1, ids1) ∧ canO s.nx mv os ids1 = some (os1, ids) ∧ listsOf (A := stdA fs ov) s.H ids ty = some hs1
/-- The rounds, from a state on whose round is known. -/
theorem loop_core {cs : CallS (stdA fs ov)} {call : CallT} (hc : CallSOK cs call) {root : Code} {lp : LpG (stdA fs ov)} {L U : Nat} {ro : Option Nat} (hl : CtxOK P call L root lp ro) (hU : U ≤ L) {p : List Bool} (hp : codeAt root p = some (.loop c))
    {X : Type} {Inv : X → Prop} {μ : X → Nat} {ts : Ex → List Nat} {sl : X → List (SV (stdA fs ov))} {bl : X → List (SO (stdA fs ov))} {ll : X → List Ll} {Q : Ex → List (SV (stdA fs ov)) → List (SO (stdA fs ov)) → List Ll → Prop} {K : Ex → SS (stdA fs ov) → Prop}
    (hbl : ∀ x, ∀ o ∈ bl x, o.mine = true) (hBm : ∀ id ∈ B, ∃ so, s.H.get id = some so ∧ so.mine = true) (hmv : ∀ id ∈ mv, ∃ so, s.H.get id = some so ∧ so.mine = true) (hBmv : ∀ id ∈ B, id ∉ mv)
    (hkt : ∀ x ∈ kt, s.T.get x.1 = some x.2) (hkr : ∀ x ∈ kr, s.H.get x.1 = some x.2 ∧ x.1 ∉ mv)
    (hb : ∀ x, Inv x → sCode P cs lp U (false :: p) c (hdL c s.T (kills mv s.H) s.N s.nx kt kr ((ts .normal).zip (sl x)) (B.zip (bl x)) ty (ll x) []) (outL s.nx ts B mv ty fun e vs os hs => match e with
      | .normal => ∃ x', Inv x' ∧ μ x' < μ x ∧ vs = sl x' ∧ os = bl x' ∧ hs = ll x'
      | e => (∀ o ∈ os, o.mine = true) ∧ Q e vs os hs))
    (hK : ∀ e vs os hs, e ≠ .normal → Q e vs os hs → K e (hdL c s.T (kills mv s.H) s.N s.nx kt kr ((ts e).zip vs) (B.zip os) ty hs (addW (mv ++ B) s.wr)))
    {W : Nat → Prop} {ν : Nm} {S : Rx.S} (hs : Sim W ν s S) : ∀ (n m : Nat) (T1 : Al (SV (stdA fs ov))) (H1 : SH (stdA fs ov)) (nx1 : Nat) (S1 : Rx.S) (ν1 : Nm), m < n →
      sCode P cs lp U (false :: p) c ⟨T1, s.N, H1, nx1, []⟩ (outL s.nx ts B mv ty fun e vs os hs => match e with
        | .normal => ∃ x', Inv x' ∧ μ x' < m ∧ vs = sl x' ∧ os = bl x' ∧ hs = ll x'
        | e => (∀ o ∈ os, o.mine = true) ∧ Q e vs os hs) →
      XT ν (⟨s.T, s.N, s.H, s.nx, []⟩ : SS (stdA fs ov)) S ν1 (⟨T1, s.N, H1, nx1, mv ++ B⟩ : SS (stdA fs ov)) S1 → (∀ t, t ∉ writes c → S1.T.get t = S.T.get t) → Sim (fun q => q ∈ S1.wr ∨ S1.nx ≤ q) ν1 (⟨T1, s.N, H1, nx1, []⟩ : SS (stdA fs ov)) S1 → (∀ q ∈ S1.wr, q ∈ S.wr ∨ S.nx ≤ q ∨ ∃ id, (id ∈ B ∨ id ∈ mv) ∧ ∃ o, ν id = some (q, o)) → GoC W ν s S K (evLoop n (fun s => evC P call ro L c s) S1) := by
  have hB1 : ∀ id, id ∈ B ∨ id ∈ mv → id < s.nx := fun id hid => by
    rcases hid with hid | hid
    · obtain ⟨so, h, _⟩ := hBm id hid; exact (hs.H.at_ id so h).1
    · obtain ⟨so, h, _⟩ := hmv id hid; exact (hs.H.at_ id so h).1
  intro n
  induction n with
  | zero => intro m T1 H1 nx1 S1 ν1 h; omega
  | succ n ih =>
    intro m T1 H1 nx1 S1 ν1 hm hrun hxt hfr hsim hwr
    obtain ⟨e, S2, ν2, s2, k1, k2, k3, k4⟩ := sCode_ok (ro := ro) hc hl.hl hl.hr hl.hroot hU hl.hro hrun (by simp [codeAt, hp]) hsim
    simp only [outL] at k4
    split at k4
    · rename_i vs os hvs hos
      split at k4
      · rename_i vs1 ids1 hcv
        split at k4
        · rename_i os1 ids hco
          split at k4
          · rename_i hs1 hls
            cases hbb : (Nat.ble (s.nx + ty.length) s2.nx && subW (below s.nx s2.wr) (mv ++ B)) with
            | false => simp only [hbb, cond_false] at k4 <;> exact k4.elim
            | true =>
              simp only [hbb, cond_true] at k4
              simp only [Bool.and_eq_true] at hbb
              obtain ⟨hn, hw⟩ := hbb
              have hw : ∀ id ∈ s2.wr, id < s.nx → id ∈ B ∨ id ∈ mv := fun id h1 h2 => (List.mem_append.1 (subW_ok hw id (mem_below.2 ⟨h1, h2⟩))).symm
              have hfr2 : ∀ t, t ∉ writes c → S2.T.get t = S.T.get t := fun t ht => by rw [evC_frame k1 ht, hfr t ht]
              have hup := evC_up k1
              have hN : S2.N = S.N := by
                have a := hup.N; have b := hsim.N; have d := hs.N
                rw [a, b, d]
              -- from the entry on
              have hx2 : XT ν (⟨s.T, s.N, s.H, s.nx, []⟩ : SS (stdA fs ov)) S ν2 ⟨s2.T, s2.N, s2.H, s2.nx, ap' (mv ++ B) s2.wr⟩ S2 := by
                have k2' : XT ν1 (⟨T1, s.N, H1, nx1, mv ++ B⟩ : SS (stdA fs ov)) S1 ν2 ⟨s2.T, s2.N, s2.H, s2.nx, ap' (mv ++ B) s2.wr⟩ S2 :=
                  ⟨k2.lo, fun id q o h1 h2 => (k2.nw id q o h1 h2).imp_right fun ⟨id0, a1, a2⟩ => ⟨id0, (by rw [ap'_eq]; exact List.mem_append_right _ a1), a2⟩, k2.up, k2.sup, k2.wr, fun id h => (by rw [ap'_eq]; exact List.mem_append_left _ h), fun q hq hn => k2.keepS q hq fun id hid => hn id (by rw [ap'_eq]; exact List.mem_append_right _ hid), k2.keep, k2.has, k2.df⟩
                exact hxt.trans (W := fun q => q ∈ S1.wr ∨ S1.nx ≤ q) ⟨hsim.N, hsim.T, hsim.H, hsim.mx, fun q hq => .inl (.inl hq), fun q hq => .inr hq⟩ k2'
              have hwB : ∀ id ∈ ap' (mv ++ B) s2.wr, id < s.nx → id ∈ B ∨ id ∈ mv := fun id h1 h2 => by
                rw [ap'_eq] at h1
                rcases List.mem_append.1 h1 with h | h
                · exact (List.mem_append.1 h).symm
                · exact hw id h h2
              have hwr2 : ∀ q ∈ S2.wr, q ∈ S.wr ∨ S.nx ≤ q ∨ ∃ id, (id ∈ B ∨ id ∈ mv) ∧ ∃ o, ν id = some (q, o) := fun q hq => by
                rcases k3.wr q hq with (h | h) | ⟨id, h1, o, h2⟩
                · exact hwr q h
                · exact .inr (.inl (Nat.le_trans hxt.up h))
                · by_cases hlt : id < s.nx
                  · exact .inr (.inr ⟨id, hw id h1 hlt, o, by rw [← hx2.lo id hlt]; exact h2⟩)
                  · rcases hx2.nw id q o (by show s.nx ≤ id; omega) h2 with h3 | ⟨id0, a1, a2, o0, a3⟩
                    · exact .inr (.inl h3)
                    · exact .inr (.inr ⟨id0, hwB id0 a1 a2, o0, by rw [← hx2.lo id0 a2]; exact a3⟩)
              have lay : ∀ {wr : List Nat} {W2 : Nat → Prop}, (∀ o ∈ os1, SO.mine o = true) → (∀ q ∈ S2.wr, W2 q ∨ ∃ id ∈ wr, ∃ o, nuL ν ν2 s.nx ids id = some (q, o)) → (∀ q, S2.nx ≤ q → W2 q) → Sim W2 (nuL ν ν2 s.nx ids) (hdL c s.T (kills mv s.H) s.N s.nx kt kr ((ts e).zip vs1) (B.zip os1) ty hs1 wr) S2 := by
                intro wr W2 a3 a5 a6
                exact sim_hdL (W := W2) (B := B) (s' := ⟨s2.T, s2.N, s2.H, s2.nx, ap' (mv ++ B) s2.wr⟩) hs hx2 (W' := fun q => q ∈ S2.wr ∨ S2.nx ≤ q) ⟨k3.N, k3.T, k3.H, k3.mx, fun q hq => .inl (.inl hq), fun q hq => .inr hq⟩ hfr2 hN hwB hmv hBm hBmv hkt hkr (mv' := []) (fun _ h => by cases h) hvs hos hcv hco hls a3 a5 a6
              have i3 : IdsOK s.nx [] ids := (canO_ok (F := ids) (ν := ν) (ν' := ν2) (fun id hid => (hx2.lo id hid).symm) hco (canL_ok (F := ids) (ν := ν) (ν' := ν2) (fun id hid => (hx2.lo id hid).symm) hcv IdsOK.nil).1).1
              have same : ∀ {s3 : SS (stdA fs ov)} {s4 : SS (stdA fs ov)}, s3.nx = s.nx → s.nx ≤ s4.nx → (∀ id ∈ s3.wr, id ∈ s4.wr) → (∀ id, id ∈ B ∨ id ∈ mv → id ∈ s4.wr) → XT ν s3 S (nuL ν ν2 s.nx ids) s4 S2 := fun {s3 s4} a1 a2 a3 a4 =>
                ⟨fun id hid => nuL_lo (by rw [← a1]; exact hid), fun id q o h1 h2 => by
                  obtain ⟨i, j, rfl, b1, b2⟩ := nuL_src (by rw [← a1]; exact h1) h2
                  have hj : s.nx ≤ j := (i3.src i j b1).resolve_right (by simp)
                  rcases hx2.nw j q o hj b2 with h3 | ⟨id0, c1, c2, o0, c3⟩
                  · exact .inl h3
                  · exact .inr ⟨id0, a4 id0 (hwB id0 c1 c2), by rw [a1]; exact c2, o0, by rw [nuL_lo c2, ← hx2.lo id0 c2]; exact c3⟩, hx2.up, by rw [a1]; exact a2, hx2.wr, a3, fun q hq hn => hx2.keepS q hq fun id hid o he => by
                  by_cases hlt : id < s.nx
                  · exact hn id (a4 id (hwB id hid hlt)) o (by rw [nuL_lo hlt, ← hx2.lo id hlt]; exact he)
                  · rcases hx2.nw id q o (by show s.nx ≤ id; omega) he with h3 | ⟨id0, b1, b2, o0, b3⟩
                    · omega
                    · exact hn id0 (a4 id0 (hwB id0 b1 b2)) o0 (by rw [nuL_lo b2, ← hx2.lo id0 b2]; exact b3), hx2.keep, hx2.has, hx2.df.re fun d id o hd h => by
                      by_cases hlt : id < s.nx
                      · rw [nuL_lo hlt, ← hx2.lo id hlt] at h; exact ⟨id, o, h⟩
                      · obtain ⟨i, j, rfl, b1, b2⟩ := nuL_src (by omega) h
                        exact ⟨j, o, b2⟩⟩
              have hnl : s.nx ≤ s.nx + ty.length := by omega
              have stop : e ≠ .normal → (∀ o ∈ os1, SO.mine o = true) → Q e vs1 os1 hs1 → GoC W ν s S K (some (e, S2)) := fun he a3 hQ => by
                refine ⟨e, S2, nuL ν ν2 s.nx ids, hdL c s.T (kills mv s.H) s.N s.nx kt kr ((ts e).zip vs1) (B.zip os1) ty hs1 (addW (mv ++ B) s.wr), rfl, same rfl hnl (fun id hid => mem_addW.2 (.inr hid)) (fun id hid => mem_addW.2 (.inl (List.mem_append.2 hid.symm))), lay (wr := addW (mv ++ B) s.wr) (W2 := W) a3 (fun q hq => ?_) (fun q hq => hs.wup q (Nat.le_trans hx2.up hq)), hK e vs1 os1 hs1 he hQ⟩
                rcases hwr2 q hq with h | h | ⟨id, h1, o, h2⟩
                · rcases hs.wr q h with h | ⟨id, h1, o, h2⟩
                  · exact .inl h
                  · exact .inr ⟨id, mem_addW.2 (.inr h1), o, by rw [nuL_lo (hs.H.lt id q o h2).2]; exact h2⟩
                · exact .inl (hs.wup q h)
                · exact .inr ⟨id, mem_addW.2 (.inl (List.mem_append.2 h1.symm)), o, by rw [nuL_lo (hB1 id h1)]; exact h2⟩
              simp only [evLoop, k1]
              cases e with
              | normal =>
                obtain ⟨x', i1, i2, rfl, rfl, rfl⟩ := k4
                exact ih (μ x') _ _ _ S2 _ (by omega) (hb x' i1) (same rfl hnl (fun _ h => by cases h) (fun id h => List.mem_append.2 h.symm)) hfr2 (lay (W2 := fun q => q ∈ S2.wr ∨ S2.nx ≤ q) (wr := []) (hbl x') (fun q hq => .inl (.inl hq)) (fun q hq => .inr hq)) hwr2
              | exit j => exact stop (by simp) k4.1 k4.2
              | goto j => exact stop (by simp) k4.1 k4.2
              | ret => exact stop (by simp) k4.1 k4.2
          · exact k4.elim
        · exact k4.elim
      · exact k4.elim
    · exact k4.elim
theorem loop_ruleL {cs : CallS (stdA fs ov)} {call : CallT} (hc : CallSOK cs call) {root : Code} {lp : LpG (stdA fs ov)} {L U : Nat} {ro : Option Nat} (hl : CtxOK P call L root lp ro) (hU : U ≤ L) {p : List Bool} (hp : codeAt root p = some (.loop c))
    {X : Type} {Inv : X → Prop} {μ : X → Nat} {ts : Ex → List Nat} {sl : X → List (SV (stdA fs ov))} {bl : X → List (SO (stdA fs ov))} {ll : X → List Ll} {Q : Ex → List (SV (stdA fs ov)) → List (SO (stdA fs ov)) → List Ll → Prop} {K : Ex → SS (stdA fs ov) → Prop}
    (hbl : ∀ x, ∀ o ∈ bl x, o.mine = true) (hBm : ∀ id ∈ B, ∃ so, s.H.get id = some so ∧ so.mine = true) (hmv : ∀ id ∈ mv, ∃ so, s.H.get id = some so ∧ so.mine = true) (hBmv : ∀ id ∈ B, id ∉ mv)
    (hkt : ∀ x ∈ kt, s.T.get x.1 = some x.2) (hkr : ∀ x ∈ kr, s.H.get x.1 = some x.2 ∧ x.1 ∉ mv)
    (hb : ∀ x, Inv x → sCode P cs lp U (false :: p) c (hdL c s.T (kills mv s.H) s.N s.nx kt kr ((ts .normal).zip (sl x)) (B.zip (bl x)) ty (ll x) []) (outL s.nx ts B mv ty fun e vs os hs => match e with
      | .normal => ∃ x', Inv x' ∧ μ x' < μ x ∧ vs = sl x' ∧ os = bl x' ∧ hs = ll x'
      | e => (∀ o ∈ os, o.mine = true) ∧ Q e vs os hs))
    (hK : ∀ e vs os hs, e ≠ .normal → Q e vs os hs → K e (hdL c s.T (kills mv s.H) s.N s.nx kt kr ((ts e).zip vs) (B.zip os) ty hs (addW (mv ++ B) s.wr)))
    {W : Nat → Prop} {ν : Nm} {S : Rx.S} {x : X} (hx : Inv x) (hμ : μ x < L) (h1 : Ent s (ts .normal) B mv ty (sl x) (bl x) (ll x)) (hs : Sim W ν s S) : GoC W ν s S K (evLoop L (fun s => evC P call ro L c s) S) := by
  have h0 : XT ν (⟨s.T, s.N, s.H, s.nx, []⟩ : SS (stdA fs ov)) S ν (⟨s.T, s.N, s.H, s.nx, mv ++ B⟩ : SS (stdA fs ov)) S := by
    have h := XT.refl (s := s) hs.H
    exact ⟨fun _ _ => rfl, fun id q o h1 h2 => (by have := (hs.H.lt id q o h2).2; dsimp only at h1; omega), Nat.le_refl _, Nat.le_refl _, fun _ h => h, (fun _ h => by cases h), fun _ _ _ => rfl, fun _ _ _ => rfl, fun q hq => .inl hq, .of rfl⟩
  obtain ⟨vs, os, ids1, ids, g1, g2, g3, g4, g5⟩ := h1.go
  have i3 : IdsOK s.nx mv ids := (canO_ok (F := ids) (ν := ν) (ν' := ν) (fun id hid => rfl) g4 (canL_ok (F := ids) (ν := ν) (ν' := ν) (fun id hid => rfl) g3 IdsOK.nil).1).1
  have old : ∀ id, s.nx ≤ id → ∀ q o, nuL ν ν s.nx ids id = some (q, o) → ∃ id0, id0 ∈ mv ∧ ν id0 = some (q, o) := fun id hid q o h => by
    obtain ⟨i, j, rfl, b1, b2⟩ := nuL_src hid h
    exact ⟨j, (i3.src i j b1).resolve_left (by have := (hs.H.lt j q o b2).2; omega), b2⟩
  have hB1 : ∀ id, id ∈ B ∨ id ∈ mv → id < s.nx := fun id hid => by
    rcases hid with hid | hid
    · obtain ⟨so, h, _⟩ := hBm id hid; exact (hs.H.at_ id so h).1
    · obtain ⟨so, h, _⟩ := hmv id hid; exact (hs.H.at_ id so h).1
  refine loop_core hc hl hU hp hbl hBm hmv hBmv hkt hkr hb hK hs L (μ x) _ _ _ S (nuL ν ν s.nx ids) hμ (hb x hx) ⟨fun id hid => nuL_lo hid, fun id q o h1 h2 => ?_, Nat.le_refl _, by show s.nx ≤ s.nx + ty.length; omega, fun _ h => h, (fun _ h => by cases h), (fun q _ _ => rfl), (fun q _ _ => rfl), fun q hq => .inl hq, .of rfl⟩ (fun _ _ => rfl) ?_ fun q hq => .inl hq
  · obtain ⟨id0, a1, a2⟩ := old id h1 q o h2
    exact .inr ⟨id0, List.mem_append_left _ a1, hB1 id0 (.inr a1), o, by rw [nuL_lo (hB1 id0 (.inr a1))]; exact a2⟩
  · exact sim_hdL (W := fun q => q ∈ S.wr ∨ S.nx ≤ q) (B := B) (W' := fun q => q ∈ S.wr ∨ S.nx ≤ q) (s' := ⟨s.T, s.N, s.H, s.nx, mv ++ B⟩) hs h0 ⟨hs.N, hs.T, hs.H, hs.mx, fun q hq => .inl (.inl hq), fun q hq => .inr hq⟩ (fun _ _ => rfl) rfl (fun id h _ => (List.mem_append.1 h).symm) hmv hBm hBmv hkt hkr (mv' := mv) (fun _ h => h) g1 g2 g3 g4 g5 (hbl x) (fun q hq => .inl (.inl hq)) (fun q hq => .inr hq)
/-- The first round has a state of its own. -/
theorem loop_ruleF {cs : CallS (stdA fs ov)} {call : CallT} (hc : CallSOK cs call) {root : Code} {lp : LpG (stdA fs ov)} {L U : Nat} {ro : Option Nat} (hl : CtxOK P call L root lp ro) (hU : U ≤ L) {p : List Bool} (hp : codeAt root p = some (.loop c))
    {X : Type} {Inv : X → Prop} {μ : X → Nat} {ts : Ex → List Nat} {sl : X → List (SV (stdA fs ov))} {bl : X → List (SO (stdA fs ov))} {ll : X → List Ll} {Q : Ex → List (SV (stdA fs ov)) → List (SO (stdA fs ov)) → List Ll → Prop} {K : Ex → SS (stdA fs ov) → Prop}
    (hbl : ∀ x, ∀ o ∈ bl x, o.mine = true) (hBm : ∀ id ∈ B, ∃ so, s.H.get id = some so ∧ so.mine = true) (hmv : ∀ id ∈ mv, ∃ so, s.H.get id = some so ∧ so.mine = true) (hBmv : ∀ id ∈ B, id ∉ mv)
    (hkt : ∀ x ∈ kt, s.T.get x.1 = some x.2) (hkr : ∀ x ∈ kr, s.H.get x.1 = some x.2 ∧ x.1 ∉ mv)
    (hb : ∀ x, Inv x → sCode P cs lp U (false :: p) c (hdL c s.T (kills mv s.H) s.N s.nx kt kr ((ts .normal).zip (sl x)) (B.zip (bl x)) ty (ll x) []) (outL s.nx ts B mv ty fun e vs os hs => match e with
      | .normal => ∃ x', Inv x' ∧ μ x' < μ x ∧ vs = sl x' ∧ os = bl x' ∧ hs = ll x'
      | e => (∀ o ∈ os, o.mine = true) ∧ Q e vs os hs))
    (hK : ∀ e vs os hs, e ≠ .normal → Q e vs os hs → K e (hdL c s.T (kills mv s.H) s.N s.nx kt kr ((ts e).zip vs) (B.zip os) ty hs (addW (mv ++ B) s.wr)))
    {W : Nat → Prop} {ν : Nm} {S : Rx.S} {m : Nat} (hm : m < L) {kt0 : List (Nat × SV (stdA fs ov))} {kr0 : List (Nat × SO (stdA fs ov))} (hkt0 : ∀ x ∈ kt0, s.T.get x.1 = some x.2) (hkr0 : ∀ x ∈ kr0, s.H.get x.1 = some x.2) (h0 : sCode P cs lp U (false :: p) c ⟨push kt0 s.T, s.N, push kr0 s.H, s.nx, []⟩ (outL s.nx ts B mv ty fun e vs os hs => match e with
      | .normal => ∃ x', Inv x' ∧ μ x' < m ∧ vs = sl x' ∧ os = bl x' ∧ hs = ll x'
      | e => (∀ o ∈ os, o.mine = true) ∧ Q e vs os hs)) (hs : Sim W ν s S) : GoC W ν s S K (evLoop L (fun s => evC P call ro L c s) S) := by
  have hs1 := sim_push hs hkt0 hkr0
  refine loop_core hc hl hU hp hbl hBm hmv hBmv hkt hkr hb hK hs L m _ _ _ S ν hm h0 ⟨fun _ _ => rfl, fun id q o h1 h2 => (by have := (hs.H.lt id q o h2).2; dsimp only at h1; omega), Nat.le_refl _, Nat.le_refl _, fun _ h => h, (fun _ h => by cases h), fun _ _ _ => rfl, fun _ _ _ => rfl, fun q hq => .inl hq, .of rfl⟩ (fun _ _ => rfl) ⟨hs1.N, hs1.T, hs1.H, hs1.mx, fun q hq => .inl (.inl hq), fun q hq => .inr hq⟩ fun q hq => .inl hq
end Go.Rx

set_option linter.unusedSimpArgs false
set_option linter.unusedVariables false
set_option linter.unusedSectionVars false
namespace Go.Rx
open Go
variable {fs : Fs} {ov : Bool} {ν : Nm} {P : Program} {M : SH (stdA fs ov)} {H : Hp} {snx nx : Nat}

theorem lsArg_ok (hM : HS ν M snx H nx) {ks : List CK} {x : SV (stdA fs ov)} {lv : LV} (hx : VS ν x lv) {h : Ll} {n : Int} (ha : lsArg M ks x = some (h, n)) (hn : n = Ll.len h) : IsL H nx ks h lv := by
  unfold lsArg at ha
  split at ha
  · cases ha
    obtain rfl := hx
    exact ⟨fun x hx => (by cases hx), .inl ⟨rfl, rfl⟩⟩
  · rename_i own id n'
    split at ha
    · rename_i t ks' own' h' hg
      cases hb : decide (ks' = ks) with
      | false => rw [hb] at ha; cases ha
      | true =>
        rw [hb] at ha
        cases ha
        obtain rfl : ks' = ks := of_decide_eq_true hb
        obtain ⟨_, hr, hat, _⟩ := hM.at_ id _ hg
        have hn : n = ((h.length : Nat) : Int) := hn
        subst hn
        refine ⟨hr, ?_⟩
        obtain ⟨n0, ⟨rfl, h3⟩ | ⟨r, o, hν, hv⟩⟩ := hx
        · have h3 : ((h.length : Nat) : Int) = 0 := h3
          exact .inl ⟨rfl, List.length_eq_zero_iff.1 (by omega)⟩
        · refine .inr ⟨r, o, (hM.lt id r o hν).1, hat.imp_right fun ⟨r', o', lo, a1, a2, a3⟩ => (by rw [hν] at a1; cases a1; exact ⟨lo, a2, a3⟩), ?_⟩
          rcases hv with ⟨e, rfl⟩ | ⟨_, cap, hc, rfl⟩
          · exact .inl ⟨e, by simp⟩
          · exact .inr ⟨cap, by simpa using hc, by simp⟩
    · cases ha
  · rename_i id off len cap
    split at ha
    · rename_i t cs hg
      cases hb : Nat.ble len cap with
      | false => rw [hb] at ha; cases ha
      | true =>
        rw [hb, cond_true] at ha
        split at ha
        · rename_i g hg2
          cases ha
          obtain ⟨r, hr, rfl⟩ := hx
          obtain ⟨_, r', lcs, hr', hl, hcs⟩ := hM.at_ id _ hg
          rw [hr] at hr'; cases hr'
          obtain ⟨g1, news, g2, g3⟩ := rowsOf_ok hg2 (hcs.drop off)
          refine ⟨g3.rows, .inr ⟨r, off, (hM.lt id r 0 hr).1, .inr ⟨_, hl, .inl ⟨lcs, rfl, rd_rows (by rw [g1]; exact g2) g3⟩⟩, .inr ⟨cap, by rw [g1]; simpa using hb, by rw [g1]⟩⟩⟩
        · cases ha
    · cases ha
  · cases ha

/-! ### Results that are lists -/
def wrapS {A : Alg} (w : Bool) (v : SV A) : SV A := match w with | true => .agg [v] | false => v
def wrapL (w : Bool) (v : LV) : LV := match w with | true => .agg [v] | false => v
theorem vs_wrap {w : Bool} {v : SV (stdA fs ov)} {lv : LV} (h : VS ν (wrapS w v) lv) : ∃ l, lv = wrapL w l ∧ VS ν v l := by
  cases w with
  | false => exact ⟨lv, rfl, h⟩
  | true =>
    obtain ⟨l, rfl, y, r, rfl, h1, rfl⟩ := h
    exact ⟨y, rfl, h1⟩
theorem wrap_vs {w : Bool} {v : SV (stdA fs ov)} {lv : LV} (h : VS ν v lv) : VS ν (wrapS w v) (wrapL w lv) := by
  cases w with
  | false => exact h
  | true => exact ⟨_, rfl, VSL.cons h rfl⟩
/-- A call that leaves memory as it is and gives a new list. -/
def Gives (P : Program) (aw m g : Nat) (args : List LV) (H : Hp) (nx : Nat) (w : Bool) (e : TypeId) (ks : List CK) (h : Ll) : Prop := ∃ r lv, CN P aw m (.f g) args H nx = some r ∧ r.o.nx ≤ r.mx ∧ nx ≤ r.o.nx ∧ r.o.wr = [] ∧ (∀ q, q < nx → r.o.H.get q = H.get q) ∧ r.o.v = wrapL w lv ∧ (∀ x ∈ h, x.length = ks.length) ∧
  ((lv = .nils ∧ h = []) ∨ ∃ q lcs, nx ≤ q ∧ q < r.o.nx ∧ lv = .gs q 0 0 h.length ∧ r.o.H.get q = some (.gro e ks.length lcs) ∧ lcs.length = h.length * ks.length ∧ cellsOK lcs 0 ks h)
/-- The end of a call that gives a new list. -/
def giveK (n : Nat) (w : Bool) (e : TypeId) (ks : List CK) (h : Ll) (v : SV (stdA fs ov)) (M : SH (stdA fs ov)) (snx' : Nat) (wr : List Nat) : Prop :=
  ((v = wrapS w (.ls true n (Ll.len h)) ∧ M.get n = some (.list e ks true h) ∧ snx' = n + 1) ∨ (v = wrapS w .nils ∧ h = [] ∧ snx' = n)) ∧ wr = []
theorem end_l {n : Nat} {w : Bool} {e : TypeId} {ks : List CK} {h g : Ll} {M : SH (stdA fs ov)} (hg : g = h) : giveK n w e ks h (wrapS w (.ls true n (Ll.len g))) (M.set n (some (.list e ks true g))) (n + 1) [] := by
  subst hg
  exact ⟨.inl ⟨rfl, Al.get_set_same _ _ _, rfl⟩, rfl⟩
theorem end_nil {n : Nat} {w : Bool} {e : TypeId} {ks : List CK} {h : Ll} {M : SH (stdA fs ov)} (hg : h = []) : giveK n w e ks h (wrapS w .nils) M n [] := ⟨.inr ⟨rfl, hg, rfl⟩, rfl⟩
theorem gives_of {aw d U n g : Nat} {l : SpL (stdA fs ov)} {lp : FuncId → LoopS (stdA fs ov)} (hsp : SpOK P aw d l) (haw : (spOf l aw).isSome = true) (hlp : LoopsAll P aw d lp) (hU : U ≤ LL) (hg : g ≠ aw) {m : Nat} (hm : m = n + d + 1)
    {args : List (SV (stdA fs ov))} {M : SH (stdA fs ov)} {snx : Nat} {w : Bool} {e : TypeId} {ks : List CK} {hh : Ll} (h : sFunc P U (sCall P U (spOf l) lp n) lp g args M snx (giveK snx w e ks hh)) (hrows : ∀ x ∈ hh, x.length = ks.length)
    {ν : Nm} {largs : List LV} {H : Hp} {nx : Nat} (ha : VSL ν args largs) (hM : HS ν M snx H nx) (hfs : fs.rng = rngAt P := by rfl) (hy : noY args = true := by rfl) : Gives P aw m g largs H nx w e ks hh := by
  subst hm
  obtain ⟨r, h1, h2, o, ν', v, M', snx', wr, e1, hG, hk, hw⟩ := sFunc_ok (sCall_ok hsp haw hlp hU hfs n) hfs (fun g fn c h1 h2 => hlp (n + d) (by omega) g fn c h1 h2) hU hy h ha hM
  cases e1
  subst hw
  rw [← CN_step hg] at h1
  have hwr : r.o.wr = [] := by
    cases hq : r.o.wr with
    | nil => rfl
    | cons q l => obtain ⟨id, hid, _⟩ := hG.wr q (by rw [hq]; simp); cases hid
  have hkeep : ∀ q, q < nx → r.o.H.get q = H.get q := fun q hq => hG.keep q hq (by rw [hwr]; simp)
  rcases hk with ⟨rfl, hg1, rfl⟩ | ⟨rfl, rfl, rfl⟩
  · obtain ⟨lv, e2, hv⟩ := vs_wrap hG.v
    refine ⟨r, lv, h1, h2, hG.up, hwr, hkeep, e2, hrows, ?_⟩
    obtain ⟨_, _, _, hown⟩ := hG.hs.at_ snx _ hg1
    obtain ⟨n0, ⟨rfl, h3⟩ | ⟨q, o, hν, hv⟩⟩ := hv
    · have h3 : ((hh.length : Nat) : Int) = 0 := h3
      exact .inl ⟨rfl, List.length_eq_zero_iff.1 (by omega)⟩
    · obtain ⟨rfl, lcs, c1, c2, c3⟩ := hown rfl q o hν
      rcases hv with ⟨_, rfl⟩ | ⟨hf, _⟩
      · exact .inr ⟨q, lcs, hG.nw snx q 0 (Nat.le_refl _) hν, (hG.hs.lt snx q 0 hν).1, (by show LV.gs q 0 0 (Int.toNat ((hh.length : Nat) : Int)) = _; simp), c1, c2, c3⟩
      · cases hf
  · obtain ⟨lv, e2, hv⟩ := vs_wrap hG.v
    exact ⟨r, lv, h1, h2, hG.up, hwr, hkeep, e2, hrows, .inl ⟨hv, rfl⟩⟩
theorem gives_got {aw m g : Nat} {largs : List LV} {w : Bool} {e : TypeId} {ks : List CK} {h : Ll} (hp : Gives P aw m g largs H nx w e ks h) {K : KS (stdA fs ov)} (hM : HS ν M snx H nx) (hK : K (wrapS w (.ls true snx (Ll.len h))) (M.set snx (some (.list e ks true h))) (snx + 1) []) : GotOp ν snx H nx K (CN P aw m (.f g) largs H nx) := by
  obtain ⟨r, lv, h1, h2, h3, h4, h5, h6, h7, h8⟩ := hp
  have hns : ν snx = none := by
    cases hq : ν snx with
    | none => rfl
    | some x => have := (hM.lt snx x.1 x.2 hq).2; omega
  have keep : ∀ (x : Option (Nat × Nat)), (∀ q o, x = some (q, o) → nx ≤ q ∧ q < r.o.nx) → OS (fs := fs) (ov := ov) (updN ν snx x) r.o.H snx (.list e ks true h) → LSr x true (Ll.len h) lv → GotOp ν snx H nx K (CN P aw m (.f g) largs H nx) := fun x hx hO hv => by
    have hle : NLe ν (updN ν snx x) := fun id y hy => by rw [updN_ne fun e => by subst e; rw [hns] at hy; cases hy]; exact hy
    refine ⟨r, h1, h2, _, updN ν snx x, wrapS w (.ls true snx (Ll.len h)), M.set snx (some (.list e ks true h)), snx + 1, [], rfl, ⟨fun id hid => updN_ne (by omega), fun id q o a b => ?_, h3, by omega, ⟨fun id so hg => ?_, fun id q o hq => ?_, fun id id' q o o' so so' hg hm hg' k1 k2 => ?_⟩, ?_, fun q hq => (by rw [h4] at hq; cases hq), fun q hq _ => h5 q hq, fun q hq => (by rw [h4] at hq; cases hq), fun _ => by omega⟩, hK⟩
    · by_cases e1 : id = snx
      · subst e1; rw [updN_same] at b; exact (hx q o b).1
      · rw [updN_ne e1] at b; have := (hM.lt id q o b).2; omega
    · rw [Al.get_set] at hg
      split at hg
      · rename_i e1; subst e1; cases hg; exact ⟨by omega, hO⟩
      · rename_i e1
        obtain ⟨a, b⟩ := hM.at_ id so hg
        exact ⟨by omega, b.sub hle (updN_ne e1) fun q o lo c1 c2 => by rw [h5 q (hM.lt id q o c1).1]; exact c2⟩
    · by_cases e1 : id = snx
      · subst e1; rw [updN_same] at hq; exact ⟨(hx q o hq).2, by omega⟩
      · rw [updN_ne e1] at hq; have := hM.lt id q o hq; exact ⟨by omega, by omega⟩
    · by_cases e1 : id = snx
      · by_cases e2 : id' = snx
        · rw [e1, e2]
        · rw [e1, updN_same] at k1; rw [updN_ne e2] at k2
          have := (hx q o k1).1; have := (hM.lt id' q o' k2).1; omega
      · by_cases e2 : id' = snx
        · rw [e2, updN_same] at k2; rw [updN_ne e1] at k1
          have := (hx q o' k2).1; have := (hM.lt id q o k1).1; omega
        · rw [updN_ne e1] at k1; rw [updN_ne e2] at k2
          rw [Al.get_set_ne _ _ e1] at hg; rw [Al.get_set_ne _ _ e2] at hg'
          exact hM.inj id id' q o o' so so' hg hm hg' k1 k2
    · rw [h6]
      refine wrap_vs ?_
      show LSr (updN ν snx x snx) true (Ll.len h) lv
      rw [updN_same]; exact hv
  rcases h8 with ⟨rfl, rfl⟩ | ⟨q, lcs, a1, a2, rfl, a4, a5, a6⟩
  · exact keep none (fun _ _ h => by cases h) ⟨h7, .inl rfl, fun _ q o hq => (by rw [updN_same] at hq; cases hq)⟩ ⟨Int.le_refl _, .inl ⟨rfl, rfl⟩⟩
  · refine keep (some (q, 0)) (fun _ _ h => by cases h; exact ⟨a1, a2⟩) ⟨h7, .inr ⟨q, 0, _, updN_same, a4, .inl ⟨lcs, rfl, a6⟩⟩, fun _ q' o hq => ?_⟩ ⟨Int.natCast_nonneg _, .inr ⟨q, 0, rfl, .inl ⟨rfl, ?_⟩⟩⟩
    · rw [updN_same] at hq; cases hq
      exact ⟨rfl, lcs, a4, a5, a6⟩
    · show LV.gs q 0 0 h.length = LV.gs q 0 0 (Int.toNat ((h.length : Nat) : Int))
      simp
theorem br_pre {b : Bool} {p : Prop} (h : (stdA fs ov).br b (fun _ => p) (fun _ => (stdA fs ov).fail "pre")) : b = true ∧ p := by
  cases b
  · exact h.elim
  · exact ⟨rfl, h⟩
theorem br_not {b : Bool} {p : Prop} (h : (stdA fs ov).br b (fun _ => (stdA fs ov).fail "pre") (fun _ => p)) : b = false ∧ p := by
  cases b
  · exact ⟨rfl, h⟩
  · exact h.elim
end Go.Rx
