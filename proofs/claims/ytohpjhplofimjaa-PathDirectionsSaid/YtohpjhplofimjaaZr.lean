/-
  A region that draws its order: whatever order its operations come up in, each finds what it found in the run. No program.
-/
import Derived.Test.YtohpjhplofimjaaZq
set_option linter.unusedSimpArgs false
set_option linter.unusedVariables false
set_option linter.unusedSectionVars false
namespace Go.Rx
open Go
variable {P : Program} {call : CallT} {ops : Array Oper} {ms : Tr Nat} {H₀ : Hp} {N : Nat} {τ : Nat → Tr LV} {lo : Nat → Nat} {on : Nat → Bool} {Hk : Nat → Hp} {r : Nat → Out}

def dstOf (ops : Array Oper) (k : Nat) : Option Tmp := (ops[k]?).bind (·.dst)
def valOf (on : Nat → Bool) (r : Nat → Out) (k : Nat) : LV := if on k then (r k).v else .tup []
/-- What a temporary holds behind those of the first operations that S names. -/
noncomputable def tm (ops : Array Oper) (on : Nat → Bool) (r : Nat → Out) (T₀ : Tr LV) (S : Nat → Bool) : Nat → Nat → Option LV
  | 0, t => T₀.get t
  | k + 1, t => if S k = true ∧ dstOf ops k = some t then some (valOf on r k) else tm ops on r T₀ S k t
def key (on : Nat → Bool) (r : Nat → Out) (lo : Nat → Nat) (k id : Nat) : Prop := on k = true ∧ ((id ∈ (r k).wr ∧ id < lo k) ∨ (lo k ≤ id ∧ id < (r k).nx))
def Closed (ops : Array Oper) (ms : Tr Nat) (S : Nat → Bool) : Prop := ∀ k i, k < ops.size → S k = true → dep ms k i = true → S i = true

theorem ex_op {k : Nat} (hk : k < ops.size) : ∃ o, ops[k]? = some o := ⟨ops[k], by simp [hk]⟩
theorem dstOf_some {k : Nat} {o : Oper} (ho : ops[k]? = some o) : dstOf ops k = o.dst := by simp [dstOf, ho]
theorem putT_get {T T' : Tr LV} {dst : Option Tmp} {lv : LV} (h : putT T N dst lv = some T') (t : Nat) : T'.get t = if dst = some t then some lv else T.get t := by
  cases dst with
  | none => simp [putT] at h; subst h; simp
  | some d =>
    unfold putT at h
    cases hb : Nat.blt d N
    · simp [hb] at h
    · simp [hb, Tr.force_eq] at h; subst h
      rw [Tr.get_set]
      by_cases e : t = d
      · subst e; simp
      · rw [if_neg e, if_neg (by intro h; cases h; exact e rfl)]
theorem tm_all (hF : Found P call ops ms H₀ N τ lo on Hk r) : ∀ k, k ≤ ops.size → ∀ t, (τ k).get t = tm ops on r (τ 0) (fun _ => true) k t := fun k => by
  induction k with
  | zero => intro _ t; rfl
  | succ k ih =>
    intro hk t
    obtain ⟨o, ho⟩ := ex_op (show k < ops.size by omega)
    rw [putT_get (hF.put_ k o ho) t, tm, dstOf_some ho]
    simp only [true_and]
    rw [ih (by omega) t]; rfl
theorem get_cont (k id : Nat) (S : Nat → Bool) : (cont H₀ on r lo S (k + 1)).get id = (open Classical in if S k = true ∧ key on r lo k id then (r k).H.get id else (cont H₀ on r lo S k).get id) := by
  classical
  rw [cont]
  by_cases hS : S k = true
  · rw [if_pos hS, Dl]
    by_cases ho : on k = true
    · rw [if_pos ho, get_applyD]
      have : id ∈ ap' (below (lo k) (r k).wr) (rng (lo k) ((r k).nx - lo k)) ↔ key on r lo k id := by
        rw [ap'_eq, List.mem_append, mem_below, mem_rng, key]
        constructor
        · rintro (h | h)
          · exact ⟨ho, .inl h⟩
          · exact ⟨ho, .inr ⟨h.1, by omega⟩⟩
        · rintro ⟨_, h | h⟩
          · exact .inl h
          · exact .inr ⟨h.1, by omega⟩
      by_cases hm : id ∈ ap' (below (lo k) (r k).wr) (rng (lo k) ((r k).nx - lo k))
      · rw [if_pos hm, if_pos ⟨hS, this.1 hm⟩]
      · rw [if_neg hm, if_neg (fun h => hm (this.2 h.2))]
    · rw [if_neg ho, if_neg (fun h => ho h.2.1)]; rfl
  · rw [if_neg hS, if_neg (fun h => hS h.1)]
theorem cont_some {S : Nat → Bool} {id : Nat} {o : LO} : ∀ {k : Nat}, (cont H₀ on r lo S k).get id = some o → H₀.get id = some o ∨ ∃ j, j < k ∧ S j = true ∧ key on r lo j id
  | 0, h => .inl h
  | k + 1, h => by
    classical
    rw [get_cont] at h
    by_cases hc : S k = true ∧ key on r lo k id
    · exact .inr ⟨k, by omega, hc.1, hc.2⟩
    · rw [if_neg hc] at h
      rcases cont_some h with h | ⟨j, h1, h2⟩
      · exact .inl h
      · exact .inr ⟨j, by omega, h2⟩
theorem lo_mono (hF : Found P call ops ms H₀ N τ lo on Hk r) {i j : Nat} (hij : i ≤ j) (hj : j ≤ ops.size) : lo i ≤ lo j := by
  induction j with
  | zero => rw [show i = 0 by omega]; exact Nat.le_refl _
  | succ j ih =>
    by_cases e : i = j + 1
    · rw [e]; exact Nat.le_refl _
    · exact Nat.le_trans (ih (by omega) (by omega)) (hF.mono j (by omega))
theorem own_unique (hF : Found P call ops ms H₀ N τ lo on Hk r) {i j id : Nat} (hi : i < ops.size) (hj : j < ops.size) (h1 : lo i ≤ id ∧ id < lo (i + 1)) (h2 : lo j ≤ id ∧ id < lo (j + 1)) : i = j := by
  rcases Nat.lt_trichotomy i j with h | h | h
  · have := lo_mono hF (show i + 1 ≤ j by omega) (by omega); omega
  · exact h
  · have := lo_mono hF (show j + 1 ≤ i by omega) (by omega); omega
/-- Who finds a new name of an operation's, waits for it. -/
theorem finds_waits (hF : Found P call ops ms H₀ N τ lo on Hk r) (hord : Order ops ms) (hfree : ∀ id, lo 0 ≤ id → id < lo ops.size → H₀.get id = none) {i id : Nat} (hi : i < ops.size) (hid : lo i ≤ id ∧ id < lo (i + 1)) :
    ∀ (j : Nat) (o : LO), j < ops.size → (cont H₀ on r lo (dep ms j) j).get id = some o → dep ms j i = true := fun j => by
  induction j using Nat.strongRecOn with
  | _ j ih =>
    intro o hj hc
    rcases cont_some hc with h | ⟨j', hj', hd, hon, hk⟩
    · have := lo_mono hF (show 0 ≤ i by omega) (by omega)
      have := lo_mono hF (show i + 1 ≤ ops.size by omega) (by omega)
      rw [hfree id (by omega) (by omega)] at h; cases h
    · rcases hk with ⟨hw, hlt⟩ | hown
      · rcases hF.inn j' (by omega) hon id hw with h | ⟨o', h⟩
        · omega
        · exact hord.trans hj hd (ih j' hj' o' (by omega) (hF.sub j' (by omega) hon id o' h))
      · rw [own_unique hF hi (by omega) hid ⟨hown.1, by have := (hF.top j' (by omega) hon).2; omega⟩]; exact hd
section
variable {S : Nat → Bool} {k : Nat} (hF : Found P call ops ms H₀ N τ lo on Hk r) (hord : Order ops ms) (hcl : Closed ops ms S) (hk : k < ops.size) (hS : S k = false) (hdep : ∀ i, dep ms k i = true → S i = true)
include hF hord hcl hk hS hdep
/-- An operation that has come up and one that comes up now: which waits for which. -/
theorem not_dep {i : Nat} (hi : i < ops.size) (hSi : S i = true) : dep ms i k = false := by
  cases hd : dep ms i k with
  | false => rfl
  | true => rw [hcl i k hi hSi hd] at hS; cases hS
theorem looks_same {o : Oper} (ho : ops[k]? = some o) {t : Nat} (ht : t ∈ o.looksAt ops) : tm ops on r (τ 0) S ops.size t = (τ k).get t := by
  have hw : ∀ i, i < ops.size → dstOf ops i = some t → (S i = true ↔ i < k) := fun i hi hd => by
    obtain ⟨oi, hoi⟩ := ex_op hi
    rw [dstOf_some hoi] at hd
    constructor
    · intro hSi
      have hne : i ≠ k := fun e => by rw [e, hS] at hSi; cases hSi
      rcases Nat.lt_or_ge i k with h | h
      · exact h
      · have hap := hord.apart hoi ho (show k < i by omega) (not_dep hF hord hcl hk hS hdep hi hSi)
        exact absurd ht ((Oper.apart_spec hap).2.2 t hd)
    · intro hlt
      cases hdk : dep ms k i with
      | true => exact hdep i hdk
      | false => exact absurd ht ((Oper.apart_spec (hord.apart ho hoi hlt hdk)).1 t hd)
  have key : ∀ j, j ≤ ops.size → tm ops on r (τ 0) S j t = tm ops on r (τ 0) (fun _ => true) (min j k) t := fun j => by
    induction j with
    | zero => intro _; rw [Nat.zero_min]; rfl
    | succ j ih =>
      intro hj
      rw [tm]
      by_cases hd : dstOf ops j = some t
      · have := hw j (by omega) hd
        by_cases hjk : j < k
        · rw [if_pos ⟨this.2 hjk, hd⟩, show min (j + 1) k = j + 1 by omega, tm, if_pos ⟨rfl, hd⟩]
        · rw [if_neg (fun h => hjk (this.1 h.1)), ih (by omega), show min (j + 1) k = k by omega, show min j k = k by omega]
      · rw [if_neg (fun h => hd h.2), ih (by omega)]
        by_cases hjk : j < k
        · rw [show min (j + 1) k = j + 1 by omega, show min j k = j by omega, tm, if_neg (fun h => hd h.2)]
        · rw [show min (j + 1) k = k by omega, show min j k = k by omega]
  rw [key ops.size (Nat.le_refl _), show min ops.size k = k by omega, ← tm_all hF k (by omega)]
theorem put_same {o : Oper} (ho : ops[k]? = some o) {S' : Nat → Bool} (hS' : ∀ i, S' i = if i = k then true else S i) (t : Nat) :
    tm ops on r (τ 0) S' ops.size t = if o.dst = some t then some (valOf on r k) else tm ops on r (τ 0) S ops.size t := by
  have h1 : ∀ j, j ≤ k → tm ops on r (τ 0) S' j t = tm ops on r (τ 0) S j t := fun j => by
    induction j with
    | zero => intro _; rfl
    | succ j ih =>
      intro hj
      have e : S' j = S j := by rw [hS' j, if_neg (by omega)]
      rw [tm, tm, ih (by omega), e]
  have h2 : ∀ j, k < j → j ≤ ops.size → tm ops on r (τ 0) S' j t = if o.dst = some t then some (valOf on r k) else tm ops on r (τ 0) S j t := fun j => by
    induction j with
    | zero => intro h; omega
    | succ j ih =>
      intro hj hjn
      by_cases e : j = k
      · subst e
        rw [tm, hS' j, if_pos rfl, dstOf_some ho, tm, hS, h1 j (Nat.le_refl _)]
        simp
      · have hkj : k < j := by omega
        rw [tm, hS' j, if_neg e, tm, ih hkj (by omega)]
        by_cases hd : o.dst = some t
        · have : ¬ (S j = true ∧ dstOf ops j = some t) := fun ⟨hSj, hdj⟩ => by
            obtain ⟨oj, hoj⟩ := ex_op (show j < ops.size by omega)
            rw [dstOf_some hoj] at hdj
            have hap := hord.apart hoj ho hkj (not_dep hF hord hcl hk hS hdep (by omega) hSj)
            exact (Oper.apart_spec hap).2.1 t hd hdj
          rw [if_neg this, if_pos hd, if_pos hd]
        · rw [if_neg hd, if_neg hd]
  exact h2 ops.size hk (Nat.le_refl _)
theorem heap_same (hfree : ∀ id, lo 0 ≤ id → id < lo ops.size → H₀.get id = none) (hon : on k = true) {id : Nat} {o : LO} (h : (Hk k).get id = some o) : (cont H₀ on r lo S ops.size).get id = some o := by
  classical
  have hc := hF.sub k hk hon id o h
  have hw : ∀ i, i < ops.size → key on r lo i id → (S i = true ↔ (i < k ∧ dep ms k i = true)) := fun i hi hkey => by
    constructor
    · intro hSi
      have hne : i ≠ k := fun e => by rw [e, hS] at hSi; cases hSi
      have hnd := not_dep hF hord hcl hk hS hdep hi hSi
      have hd : dep ms k i = true := by
        cases hd : dep ms k i with
        | true => rfl
        | false =>
          obtain ⟨honi, hw | hown⟩ := hkey
          · rcases Nat.lt_or_ge i k with hlt | hge
            · rw [(hF.quiet k i hk hlt hon honi hd).1 id hw.1 hw.2] at h; cases h
            · rw [(hF.quiet i k hi (by omega) honi hon hnd).2 id hw.1 hw.2] at h; cases h
          · have := finds_waits hF hord hfree hi ⟨hown.1, by have := (hF.top i hi honi).2; omega⟩ k o hk hc
            rw [hd] at this; cases this
      exact ⟨hord.lt hk hd, hd⟩
    · rintro ⟨_, hd⟩; exact hdep i hd
  have key' : ∀ j, j ≤ ops.size → (cont H₀ on r lo S j).get id = (cont H₀ on r lo (dep ms k) (min j k)).get id := fun j => by
    induction j with
    | zero => intro _; rw [Nat.zero_min]; rfl
    | succ j ih =>
      intro hj
      rw [get_cont]
      by_cases hkey : key on r lo j id
      · have := hw j (by omega) hkey
        by_cases hSj : S j = true
        · obtain ⟨hjk, hd⟩ := this.1 hSj
          rw [if_pos ⟨hSj, hkey⟩, show min (j + 1) k = j + 1 by omega, get_cont, if_pos ⟨hd, hkey⟩]
        · rw [if_neg (fun h => hSj h.1), ih (by omega)]
          by_cases hjk : j < k
          · have hd : dep ms k j ≠ true := fun hd => hSj (this.2 ⟨hjk, hd⟩)
            rw [show min (j + 1) k = j + 1 by omega, show min j k = j by omega, get_cont, if_neg (fun h => hd h.1)]
          · rw [show min (j + 1) k = k by omega, show min j k = k by omega]
      · rw [if_neg (fun h => hkey h.2), ih (by omega)]
        by_cases hjk : j < k
        · rw [show min (j + 1) k = j + 1 by omega, show min j k = j by omega, get_cont, if_neg (fun h => hkey h.2)]
        · rw [show min (j + 1) k = k by omega, show min j k = k by omega]
  rw [key' ops.size (Nat.le_refl _), show min ops.size k = k by omega]
  exact hc
open Classical in
theorem heap_put (hfree : ∀ id, lo 0 ≤ id → id < lo ops.size → H₀.get id = none) {S' : Nat → Bool} (hS' : ∀ i, S' i = if i = k then true else S i) (id : Nat) :
    (cont H₀ on r lo S' ops.size).get id = if key on r lo k id then (r k).H.get id else (cont H₀ on r lo S ops.size).get id := by
  have h1 : ∀ j, j ≤ k → (cont H₀ on r lo S' j).get id = (cont H₀ on r lo S j).get id := fun j => by
    induction j with
    | zero => intro _; rfl
    | succ j ih =>
      intro hj
      have e : S' j = S j := by rw [hS' j, if_neg (by omega)]
      rw [get_cont, get_cont, ih (by omega), e]
  have hnot : ∀ j, k < j → j < ops.size → S j = true → key on r lo k id → key on r lo j id → False := fun j hkj hj hSj hkk hkj' => by
    have hnd := not_dep hF hord hcl hk hS hdep hj hSj
    obtain ⟨honk, hkk⟩ := hkk
    obtain ⟨honj, hkj'⟩ := hkj'
    have hm := lo_mono hF (show k + 1 ≤ j by omega) (by omega)
    have hm' := hF.mono k hk
    rcases hkj' with ⟨hwj, hltj⟩ | hownj
    · rcases hF.inn j hj honj id hwj with h | ⟨o', h⟩
      · omega
      · rcases hkk with ⟨hwk, hltk⟩ | hownk
        · have := (hF.quiet j k hj hkj honj honk hnd).1 id hwk hltk
          rw [this] at h; cases h
        · have := finds_waits hF hord hfree hk ⟨hownk.1, by have := (hF.top k hk honk).2; omega⟩ j o' hj (hF.sub j hj honj id o' h)
          rw [hnd] at this; cases this
    · rcases hkk with ⟨hwk, hltk⟩ | hownk
      · omega
      · have := own_unique hF hk hj ⟨hownk.1, by have := (hF.top k hk honk).2; omega⟩ ⟨hownj.1, by have := (hF.top j hj honj).2; omega⟩; omega
  have h2 : ∀ j, k < j → j ≤ ops.size → (cont H₀ on r lo S' j).get id = if key on r lo k id then (r k).H.get id else (cont H₀ on r lo S j).get id := fun j => by
    induction j with
    | zero => intro h; omega
    | succ j ih =>
      intro hj hjn
      by_cases e : j = k
      · subst e
        rw [get_cont, hS' j, if_pos rfl, get_cont, hS, h1 j (Nat.le_refl _)]
        simp
      · have hkj : k < j := by omega
        rw [get_cont, hS' j, if_neg e, get_cont, ih hkj (by omega)]
        by_cases hkk : key on r lo k id
        · rw [if_pos hkk, if_neg (fun h => hnot j hkj (by omega) h.1 hkk h.2), if_pos hkk]
        · rw [if_neg hkk, if_neg hkk]
  exact h2 ops.size hk (Nat.le_refl _)
end
end Go.Rx
