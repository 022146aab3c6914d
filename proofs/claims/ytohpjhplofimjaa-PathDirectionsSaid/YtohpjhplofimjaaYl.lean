/-
  A symbolic run: from a call of the run to a call of the machine. No program.
-/
import Derived.Test.YtohpjhplofimjaaYk
set_option linter.unusedSimpArgs false
set_option linter.unusedVariables false
set_option linter.unusedSectionVars false
namespace Go.Rx
open Go
variable {fs : Fs} {ov : Bool} {ν : Nm} {P : Program}

theorem SpecOK.mono {aw d d' g : Nat} {f : List (SV (stdA fs ov)) → SH (stdA fs ov) → Nat → KS (stdA fs ov) → Prop} (h : SpecOK P aw d g f) (hd : d ≤ d') : SpecOK P aw d' g f := fun m hm => h m (by omega)
theorem SpOK.nil {aw d : Nat} : SpOK (fs := fs) (ov := ov) P aw d [] := fun x hx => by cases hx
theorem SpOK.cons {aw d g : Nat} {f : List (SV (stdA fs ov)) → SH (stdA fs ov) → Nat → KS (stdA fs ov) → Prop} {l : SpL (stdA fs ov)} (h : SpecOK P aw d g f) (h' : SpOK P aw d l) : SpOK P aw d ((g, f) :: l) := fun x hx => by
  rcases List.mem_cons.1 hx with rfl | hx
  · exact h
  · exact h' x hx
theorem SpOK.mono {aw d d' : Nat} {l : SpL (stdA fs ov)} (h : SpOK P aw d l) (hd : d ≤ d') : SpOK P aw d' l := fun x hx => (h x hx).mono hd
theorem LoopsAll.mono {aw d d' : Nat} {lp : FuncId → LoopS (stdA fs ov)} (h : LoopsAll P aw d lp) (hd : d ≤ d') : LoopsAll P aw d' lp := fun m hm => h m (by omega)
section
variable {aw m L n : Nat} (hmix : P.follows .mixedOrders = true) (hname : ∀ (g : Nat) (fn : Func) (c : Code), P.funcs[g]? = some fn → fn.body = some c → (fn.name == "runtime.NumGoroutine") = false) (haw : yields P L [] n aw [] (.b true) = true)
include hmix hname haw
theorem CN_ok : CallOK P (CN P aw m) := by
  have ht : TabOK P [(aw, [([], .b true)])] := tab_one hmix hname tab_none haw
  exact known_ok ht (evKnown_ok hmix hname ht m)
/-- A call of the run that returns true is one of the machine. -/
theorem law_calls {g : Nat} {args : List LV} {H : Hp} {nx : Nat} (h : Pure P aw m g args H nx (.b true)) {R : Ren} {w : World} {vs : List Value} (hR : Rel R H w) (hv : VRL R args vs) (hf : ∀ id, nx ≤ id → R id = none) :
    Calls P g vs.toArray w fun e w' => e = .returned (.bool true) ∧ Go.RowKit.Below w.heap.size w w' := by
  obtain ⟨r, h1, h2, h3, h4, h5, h6⟩ := h
  have := ((CN_ok (m := m) hmix hname haw) (.f g) args H nx r h1 R w vs hR hv (fun id hid _ => hf id hid)).2
  have := (callsIn_wide (n := 0)).1 (show CallsIn Fence.wide 0 P g vs.toArray w _ from this 0)
  refine this.mono ?_
  rintro e w' ⟨u, rfl, R', hx, _, hu⟩
  rw [h3] at hu
  rw [show u = .bool true from hu]
  rw [h5] at hx
  exact ⟨rfl, hx.quiet.os, hx.quiet.tape, hx.quiet.output, hx.size, fun b hb => hx.keep b hb fun id hid => by cases hid⟩
end
theorem rel_empty {w : World} : Rel (fun _ => none) .l w := ⟨fun id o ho => by simp [Tr.get_l] at ho, fun id id' o o' b c c' h1 => by simp [Tr.get_l] at h1⟩
theorem vrl_ints {R : Ren} : ∀ (l : List Int), VRL R (l.map (LV.i .i64)) (l.map (Value.int .i64))
  | [] => rfl
  | x :: l => VRL.cons rfl (vrl_ints l)
theorem vr_agg {R : Ren} (l : List Int) : VR R (.agg (l.map (LV.i .i64))) (.agg (l.map (Value.int .i64)).toArray) := ⟨_, rfl, by simpa using vrl_ints l⟩
theorem cond_iff {p : Prop} [Decidable p] {a b : Prop} : (cond (decide p) a b) = ((p → a) ∧ (¬ p → b)) := by
  by_cases h : p <;> simp [h]
theorem cond_not {b : Bool} {x y : Prop} : (cond (!b) x y) = cond b y x := by cases b <;> rfl
theorem InK64 {n : Int} : InK .i64 n = (-9223372036854775808 ≤ n ∧ n ≤ 9223372036854775807) := rfl
end Go.Rx
