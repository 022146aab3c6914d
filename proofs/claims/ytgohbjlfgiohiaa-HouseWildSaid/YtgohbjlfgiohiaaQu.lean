/- A region that draws its order and at last stores into what it has loaded: a condition on the world is held until operation n has come up; whoever yields one value under the condition, and is waited for by n, may be taken first. -/
import Derived.Test.YtgohbjlfgiohiaaRows
import Derived.OrdersHeld
namespace Go.Proofs.Ytgohbjlfgiohiaa
open Go

section
variable {P : Program} {ops : Array Oper} {Q : Exit → Act → World → Prop} {md : Region.Mode} {S : World → Prop}
/-- Whatever order is picked from here on; S holds behind each operation, until operation n has come up. -/
def anyU (P : Program) (md : Region.Mode) (ops : Array Oper) (Q : Exit → Act → World → Prop) (S : World → Prop) (n : Nat) : Nat → Array Bool → Act → World → Prop
  | 0, listed, a, w => Region.ready md ops listed = [] ∧ Q .normal a w
  | fuel + 1, listed, a, w =>
    (Region.ready md ops listed = [] → Q .normal a w) ∧
    ∀ i ∈ Region.ready md ops listed, wpOp P ops Q i (fun a' w' => ((listed.setIfInBounds i true).getD n true = false → S w') ∧ anyU P md ops Q S n fuel (listed.setIfInBounds i true) a' w') a w
theorem any_of_U {n : Nat} : ∀ (fuel : Nat) (listed : Array Bool) (a : Act) (w : World), anyU P md ops Q S n fuel listed a w → wpAny P md ops Q fuel listed a w
  | 0, _, _, _, h => h
  | fuel + 1, _, _, _, h => ⟨h.1, fun i hi => wpOp_mono (fun a' w' h' => any_of_U fuel _ a' w' h'.2) (h.2 i hi)⟩
theorem anyU_first {n i : Nat} {oi : Oper} {v : Value} {S0 : World → Prop} (M : Array Bool → Prop) (hin : i ≠ n) (hi : ops[i]? = some oi) (hsel : ∀ (j : Nat) (o : Oper) cs b, ops[j]? = some o → o.op ≠ .select cs b)
    (hQ : ∀ c a w, Q (.panic c) (a.put oi.dst v) w → Q (.panic c) a w)
    (hM : ∀ (listed : Array Bool) (j : Nat), M listed → listed.getD i true = false → j ∈ Region.ready md ops listed → j ≠ i → M (listed.setIfInBounds j true))
    (hMS : ∀ (listed : Array Bool) (w : World), M listed → (listed.getD n true = false → S w) → S0 w) :
    ∀ (fuel : Nat) (listed : Array Bool) (a : Act) (w : World), M listed →
      (∀ j oj, ops[j]? = some oj → j ≠ i → listed.getD j true = false → (∀ e ∈ oj.after, Region.binds md e = true → e.on ≠ i) → oi.apart ops oj = true) →
      i ∈ Region.ready md ops listed → YieldsIf P ops S0 oi v a → (listed.getD n true = false → S w) →
      anyU P md ops Q S n fuel (listed.setIfInBounds i true) (a.put oi.dst v) w → anyU P md ops Q S n (fuel + 1) listed a w := by
  have keep : ∀ (listed : Array Bool) (w : World), (listed.getD n true = false → S w) → ((listed.setIfInBounds i true).getD n true = false → S w) := by
    intro listed w h hn
    refine h ?_
    rwa [getD_set_ne true hin] at hn
  intro fuel
  induction fuel with
  | zero =>
    intro listed a w hm _ hr hy hS H
    refine ⟨fun h => (by rw [h] at hr; cases hr), fun j hj => ?_⟩
    by_cases hji : j = i
    · subst hji; exact hy.wpOp hi (hMS listed w hm hS) ⟨keep listed w hS, H⟩
    · have := ready_mono hj hji
      rw [H.1] at this
      cases this
  | succ fuel ih =>
    intro listed a w hm hfree hr hy hS H
    refine ⟨fun h => (by rw [h] at hr; cases hr), fun j hj => ?_⟩
    by_cases hji : j = i
    · subst hji; exact hy.wpOp hi (hMS listed w hm hS) ⟨keep listed w hS, H⟩
    · have h1 := H.2 j (ready_mono hj hji)
      have hun := (mem_ready.1 hr).1
      obtain ⟨hjun, oj, hoj, hall⟩ := mem_ready.1 hj
      have hnot : ∀ e ∈ oj.after, Region.binds md e = true → e.on ≠ i := fun e he hb heq => by
        have h1 := hall e he hb
        have h0 := (mem_ready.1 hr).1
        rw [heq] at h1
        rcases Nat.lt_or_ge i listed.size with h' | h'
        · simp [h'] at h0 h1; rw [h0] at h1; cases h1
        · simp [Array.getElem?_eq_none h'] at h1
      have h2 := wpOp_putIf hoj (hfree j oj hoj hji hjun hnot) (fun cs b => hsel i oi cs b hi) (fun cs b => hsel j oj cs b hoj) hQ hy h1
      have hfree' : ∀ k ok, ops[k]? = some ok → k ≠ i → (listed.setIfInBounds j true).getD k true = false →
          (∀ e ∈ ok.after, Region.binds md e = true → e.on ≠ i) → oi.apart ops ok = true := fun k ok hk hki hun hno => by
        refine hfree k ok hk hki ?_ hno
        by_cases hjk : j = k
        · subst hjk; exact hjun
        · rw [getD_set_ne true hjk] at hun; exact hun
      have hback : ∀ w', (((listed.setIfInBounds i true).setIfInBounds j true).getD n true = false → S w') → ((listed.setIfInBounds j true).getD n true = false → S w') := by
        intro w' h hn
        refine h ?_
        by_cases e' : j = n
        · subst e'
          rcases Nat.lt_or_ge j listed.size with h' | h'
          · simp [h'] at hn
          · have hj2 := (mem_ready.1 hj).1
            simp [Array.getElem?_eq_none h'] at hj2
        · rw [getD_set_ne true e', getD_set_ne true hin]
          rwa [getD_set_ne true e'] at hn
      refine wpOp_mono (fun a' w' h3 => ?_) h2
      have hb := hback w' h3.2.1
      refine ⟨hb, ih (listed.setIfInBounds j true) a' w' (hM listed j hm hun hj hji) hfree' (ready_mono hr (Ne.symm hji)) h3.1 hb ?_⟩
      rw [Array.setIfInBounds_comm _ _ hji]
      exact h3.2.2
/-- Take number i first: it yields one value in whatever world. -/
theorem anyU_take {n i : Nat} {oi : Oper} {v : Value} (d : Option Tmp) (hd : oi.dst = d) {fuel : Nat} {listed : Array Bool} {a : Act} {w : World} (hin : i ≠ n) (hi : ops[i]? = some oi)
    (hs : Region.noSelect ops = true) (hf : Region.free md ops listed i = true) (hr : (Region.ready md ops listed).contains i = true)
    (hQ : ∀ c a w, Q (.panic c) (a.put d v) w → Q (.panic c) a w) (hy : YieldsIf P ops (fun _ => True) oi v a) (hS : listed.getD n true = false → S w)
    (h : anyU P md ops Q S n fuel (listed.setIfInBounds i true) (a.put d v) w) : anyU P md ops Q S n (fuel + 1) listed a w := by
  subst hd
  exact anyU_first (S0 := fun _ => True) (fun _ => True) hin hi (Region.noSelect_spec hs) hQ (fun _ _ _ _ _ _ => trivial) (fun _ _ _ _ => trivial) fuel listed a w trivial (Region.free_spec hi hf) (by simpa using hr) hy hS h
/-- Operation n waits for i by an edge of its own. -/
def waits (md : Region.Mode) (ops : Array Oper) (n i : Nat) : Bool := match ops[n]? with | some o => o.after.any fun e => Region.binds md e && e.on == i | none => false
theorem waits_not {n i : Nat} {listed : Array Bool} (h : waits md ops n i = true) (hun : listed.getD i true = false) : n ∉ Region.ready md ops listed := by
  intro hr
  obtain ⟨_, o, ho, hall⟩ := mem_ready.1 hr
  unfold waits at h
  rw [ho] at h
  obtain ⟨e, he, hb⟩ := Array.any_eq_true'.1 h
  simp only [Bool.and_eq_true, beq_iff_eq] at hb
  have h1 := hall e he hb.1
  rw [hb.2] at h1
  rcases Nat.lt_or_ge i listed.size with h' | h'
  · simp [h'] at hun h1; rw [hun] at h1; cases h1
  · simp [Array.getElem?_eq_none h'] at h1
/-- Take number i first: it yields one value in every world that meets S, and n, up to which S holds, waits for it. -/
theorem anyU_takeS {n i : Nat} {oi : Oper} {v : Value} (d : Option Tmp) (hd : oi.dst = d) {fuel : Nat} {listed : Array Bool} {a : Act} {w : World} (hin : i ≠ n) (hi : ops[i]? = some oi)
    (hs : Region.noSelect ops = true) (hf : Region.free md ops listed i = true) (hr : (Region.ready md ops listed).contains i = true) (hw : waits md ops n i = true) (hn : listed.getD n true = false)
    (hQ : ∀ c a w, Q (.panic c) (a.put d v) w → Q (.panic c) a w) (hy : YieldsIf P ops S oi v a) (hS : S w)
    (h : anyU P md ops Q S n fuel (listed.setIfInBounds i true) (a.put d v) w) : anyU P md ops Q S n (fuel + 1) listed a w := by
  subst hd
  exact anyU_first (S0 := S) (fun l => l.getD n true = false) hin hi (Region.noSelect_spec hs) hQ
    (fun l j hl hun hj hji => by
      have : j ≠ n := fun e => waits_not hw hun (e ▸ hj)
      rw [getD_set_ne true this]; exact hl)
    (fun _ _ hl hS => hS hl) fuel listed a w hn (Region.free_spec hi hf) (by simpa using hr) hy (fun _ => hS) h
/-- What is to be shown of each operation that may come up. -/
def AllU (P : Program) (md : Region.Mode) (ops : Array Oper) (Q : Exit → Act → World → Prop) (S : World → Prop) (n fuel : Nat) (listed : Array Bool) (a : Act) (w : World) (rs : List Nat) : Prop :=
  ∀ i ∈ rs, wpOp P ops Q i (fun a' w' => ((listed.setIfInBounds i true).getD n true = false → S w') ∧ anyU P md ops Q S n fuel (listed.setIfInBounds i true) a' w') a w
theorem AllU.nil {n fuel : Nat} {listed : Array Bool} {a : Act} {w : World} : AllU P md ops Q S n fuel listed a w [] := fun _ h => by cases h
/-- What stands behind an operation, shut. -/
def Behind (p : Prop) : Prop := p
theorem Behind.out {p : Prop} (h : Behind p) : p := h
theorem AllU.cons {n fuel : Nat} {listed : Array Bool} {a : Act} {w : World} {i : Nat} {o : Oper} {rs : List Nat} (ho : ops[i]? = some o)
    (h : ∀ K' : Act → World → Prop, Behind (∀ a w, ((listed.setIfInBounds i true).getD n true = false → S w) → anyU P md ops Q S n fuel (listed.setIfInBounds i true) a w → K' a w) → if Region.wanted o (yielded ops a.tmps) = true then Oper.wp P o a w K' Q else K' (a.put o.dst undef) w)
    (hs : AllU P md ops Q S n fuel listed a w rs) : AllU P md ops Q S n fuel listed a w (i :: rs) := fun j hj => by
  rcases List.mem_cons.1 hj with rfl | hj
  · have h1 := h (fun a' w' => ((listed.setIfInBounds j true).getD n true = false → S w') ∧ anyU P md ops Q S n fuel (listed.setIfInBounds j true) a' w') (fun a w h1 h2 => ⟨h1, h2⟩)
    unfold wpOp
    rw [ho]
    dsimp only
    split
    · rename_i hw; rw [if_pos hw] at h1; exact .inl h1
    · rename_i hw; rw [if_neg hw] at h1; exact h1
  · exact hs j hj
theorem anyU_ready {n : Nat} {rs : List Nat} {fuel : Nat} {listed : Array Bool} {a : Act} {w : World} (hr : Region.ready md ops listed = rs) (hne : rs ≠ [])
    (h : AllU P md ops Q S n fuel listed a w rs) : anyU P md ops Q S n (fuel + 1) listed a w := ⟨fun h0 => absurd (hr ▸ h0) hne, hr ▸ h⟩
theorem anyU_done {n fuel : Nat} {listed : Array Bool} {a : Act} {w : World} (hr : Region.ready md ops listed = []) (h : Q .normal a w) : anyU P md ops Q S n fuel listed a w := by
  cases fuel with
  | zero => exact ⟨hr, h⟩
  | succ f => exact ⟨fun _ => h, fun i hi => by rw [hr] at hi; cases hi⟩
theorem wp_region_U {id : Nat} {a : Act} {w : World} (S : World → Prop) (n : Nat) (hm : P.follows .mixedOrders = true)
    (h : anyU P .any ops Q S n ops.size (Array.replicate ops.size false) a w.drew) : (Code.region id ops true).wp P Q a w :=
  wp_region_any hm (any_of_U _ _ _ _ h)
end
end Go.Proofs.Ytgohbjlfgiohiaa
