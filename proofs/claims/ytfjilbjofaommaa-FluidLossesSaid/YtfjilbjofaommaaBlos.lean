/- the loss does not grow from a place to a higher one, and is 0 at the top; and the examples hold. No condition. -/
import Derived.Test.YtfjilbjofaommaaBg
import Derived.Test.YtfjilbjofaommaaMw
import Derived.Test.YtfjilbjofaommaaKr
import Derived.Test.YtfjilbjofaommaaLm
import Derived.ChangeSame
set_option linter.unusedVariables false
namespace Go.Proofs.Ytfjilbjofaommaa
open Go.ChangeShapes Go.WideShapes Go.ChangeAt Go.RowKit

theorem fluidLosses_walk (W : World) (v0 : Value) (l0 : Go.Rx.Ll) (s0 : Go.Rx.SlArg W [.int .i64] v0 l0) (a1x0 a1x1 : Int) (h1 : ∀ z ∈ [a1x0, a1x1], IntKind.i64.has z) (a2 : Int) (h2 : IntKind.i64.has a2) (a3 : Int) (h3 : IntKind.i64.has a3) (a4 : Int) (h4 : IntKind.i64.has a4) :
    Calls Try.prog 7 #[v0, .agg ([a1x0, a1x1].map (Value.int .i64)).toArray, .int .i64 a2, .int .i64 a3, .int .i64 a4] W fun e w' => e = .returned (.bool true) ∧ Below W.heap.size W w' := by
  obtain ⟨R, H, lvs, hR, hf, hn, hall⟩ := Go.Rx.lists_in (w := W) (l := [(v0, [.int .i64], l0)]) (by
    intro x hx
    simp only [List.mem_cons, List.not_mem_nil, or_false] at hx
    rcases hx with rfl
    · exact s0)
  obtain ⟨x0, rfl⟩ := Go.Rx.len1 hn
  have g0 := hall 0 _ _ rfl rfl
  exact Go.Rx.law_calls mixes named aw_run (m := 20000) (nx := 1) (losses_pure (by omega) a1x0 a1x1 a2 a3 a4 g0.2) hR (vs := [v0, .agg ([a1x0, a1x1].map (Value.int .i64)).toArray, .int .i64 a2, .int .i64 a3, .int .i64 a4]) (Go.Rx.VRL.cons g0.1 (Go.Rx.VRL.cons (Go.Rx.vr_agg [a1x0, a1x1]) (Go.Rx.VRL.cons rfl (Go.Rx.VRL.cons rfl (Go.Rx.VRL.cons rfl rfl))))) hf

set_option maxRecDepth 100000 in
theorem liftedFluidLosses (os : Os) (started : os.Started) (H : Type) (enc : TypeId × Value → H) :
    ReturnsInHanded {} Try.checked os 7 .any (Rows.fluidLossesSpec.pre6 enc Try.prog Try.f7 Rows.fluidLossesRow.domain false) (Rows.fluidLossesSpec.post enc Try.prog Try.f7 false true false false) := by
  refine returnsInHanded_of_change (C := Try.checked) own started (by kernel_rfl) Try.func7
    (ChangeSpec.witness6 (enc := enc) (C := Try.checked) false ⟨#[], #[.slice none 0 0, .agg #[.int .i64 0, .int .i64 0], .int .i64 0, .int .i64 0, .int .i64 0], []⟩ 16 (by kernel_rfl) (by kernel_rfl) (by kernel_rfl) (by kernel_rfl)) ?_
  intro W base args ds gs before hval0 hW hcnd _
  have hval : ∀ (j : Nat) t v, Try.f7.params[j]? = some t → args[j]? = some v → Value.okWide Try.prog W .any base t v := hval0
  have hW' := hW
  obtain ⟨p, q, hA0, hV, rfl, hfz, hnd⟩ := hW
  have hA : DataW.TrodAll enc Try.prog W 0 (fun _ => true) true Try.f7.params.toList args.toList ds p := hA0
  rw [Try.params7] at hA hval
  obtain ⟨v0, vs0, d0, ds0, p0, q0, hargs, rfl, rfl, h0, r0⟩ := trodAll_cons hA
  obtain ⟨v1, vs1, d1, ds1, p1, q1, rfl, rfl, rfl, h1, r1⟩ := trodAll_cons r0
  obtain ⟨v2, vs2, d2, ds2, p2, q2, rfl, rfl, rfl, h2, r2⟩ := trodAll_cons r1
  obtain ⟨v3, vs3, d3, ds3, p3, q3, rfl, rfl, rfl, h3, r3⟩ := trodAll_cons r2
  obtain ⟨v4, vs4, d4, ds4, p4, q4, rfl, rfl, rfl, h4, r4⟩ := trodAll_cons r3
  obtain ⟨rfl, rfl, rfl⟩ := trodAll_nil r4
  obtain rfl : args = #[v0, v1, v2, v3, v4] := by cases args; simp_all
  obtain ⟨rfl, rfl⟩ := trodVars_none hV
  have k0 := h0
  have lt0 : ∀ x ∈ p0, x.block < W.heap.size := by obtain ⟨m, hm⟩ := k0; exact DataW.trod_lt m _ _ _ hm
  obtain ⟨u0, s0⟩ := Go.Rx.val_intsL Try.underlying22 Try.underlying2 (by kernel_rfl) (hval 0 _ v0 rfl rfl) h0
  have k1 := h1
  have lt1 : ∀ x ∈ p1, x.block < W.heap.size := by obtain ⟨m, hm⟩ := k1; exact DataW.trod_lt m _ _ _ hm
  obtain ⟨z1, rfl, l1, b1⟩ := agg_ints (ts := [2, 2]) Try.underlying52 (by kernel_rfl) (by kernel_rfl) (by kernel_rfl) (hval 1 _ v1 rfl rfl)
  obtain ⟨a1x0, a1x1, rfl⟩ := list2 l1
  have k2 := h2
  have lt2 : ∀ x ∈ p2, x.block < W.heap.size := by obtain ⟨m, hm⟩ := k2; exact DataW.trod_lt m _ _ _ hm
  obtain ⟨a2, rfl, b2⟩ := val_int (by kernel_rfl) (hval 2 _ v2 rfl rfl)
  have k3 := h3
  have lt3 : ∀ x ∈ p3, x.block < W.heap.size := by obtain ⟨m, hm⟩ := k3; exact DataW.trod_lt m _ _ _ hm
  obtain ⟨a3, rfl, b3⟩ := val_int (by kernel_rfl) (hval 3 _ v3 rfl rfl)
  have k4 := h4
  have lt4 : ∀ x ∈ p4, x.block < W.heap.size := by obtain ⟨m, hm⟩ := k4; exact DataW.trod_lt m _ _ _ hm
  obtain ⟨a4, rfl, b4⟩ := val_int (by kernel_rfl) (hval 4 _ v4 rfl rfl)
  clear hA0 hval0
  refine (fluidLosses_walk W v0 u0 s0 a1x0 a1x1 b1 a2 b2 a3 b3 a4 b4).mono fun e W' ⟨he, bel⟩ => ?_
  subst he
  exact ⟨_, rfl, _, _, _, [], _, [], hW', trodAll_mk1 (shut_bool Try.underlying4 _), (trodAll_cons_mk (Below.trod laidOut (by kernel_rfl) (of_decide_eq_true (by kernel_rfl)) k0 bel lt0) (trodAll_cons_mk (Below.trod laidOut (by kernel_rfl) (of_decide_eq_true (by kernel_rfl)) k1 bel lt1) (trodAll_cons_mk (Below.trod laidOut (by kernel_rfl) (of_decide_eq_true (by kernel_rfl)) k2 bel lt2) (trodAll_cons_mk (Below.trod laidOut (by kernel_rfl) (of_decide_eq_true (by kernel_rfl)) k3 bel lt3) (trodAll_cons_mk (Below.trod laidOut (by kernel_rfl) (of_decide_eq_true (by kernel_rfl)) k4 bel lt4) trodAll_mk0))))), rfl, bel.frame _, fun h => by cases h⟩

/-- FluidLosses returns true for every input. -/
theorem fluidLosses_holds : Rows.FluidLossesSaid :=
  OpenClaim.holds_of_wide 7 Try.f7 rfl rfl rfl rfl rfl rfl rfl ⟨rfl, rfl, rfl, rfl, rfl⟩ rfl rfl rfl rfl rfl (by kernel_rfl) Try.func7 (by kernel_rfl)
    (of_decide_eq_true (by kernel_rfl)) (by unfold Func.isWrapper; first | (rw [if_pos (by decide +kernel)]; kernel_rfl) | (rw [if_neg (by decide +kernel)]; exact ⟨rfl, rfl⟩))
    (fun os started H enc _ => liftedFluidLosses os started H enc)

end Go.Proofs.Ytfjilbjofaommaa
