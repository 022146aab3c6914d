/- FluidHeights holds for every input: the height line of a hole made of numbers is right, never falls, and ends at the volume and the height of the hole; and the examples hold. No condition. -/
import Derived.Test.YtgjnkdedknpniaaBe
import Derived.Test.YtgjnkdedknpniaaMw
import Derived.Test.YtgjnkdedknpniaaKr
import Derived.Test.YtgjnkdedknpniaaLm
import Derived.ChangeSame
set_option linter.unusedVariables false
namespace Go.Proofs.Ytgjnkdedknpniaa
open Go.ChangeShapes Go.WideShapes Go.ChangeAt Go.RowKit

theorem fluidHeights_walk (W : World) (v0 : Value) (l0 : Go.Rx.Ll) (s0 : Go.Rx.SlArg W [.int .i64] v0 l0) (a1 : Int) (h1 : IntKind.i64.has a1) :
    Calls Try.prog 8 #[v0, .int .i64 a1] W fun e w' => e = .returned (.bool true) ∧ Below W.heap.size W w' := by
  obtain ⟨R, H, lvs, hR, hf, hn, hall⟩ := Go.Rx.lists_in (w := W) (l := [(v0, [.int .i64], l0)]) (by
    intro x hx
    simp only [List.mem_cons, List.not_mem_nil, or_false] at hx
    rcases hx with rfl
    · exact s0)
  obtain ⟨x0, rfl⟩ := Go.Rx.len1 hn
  have g0 := hall 0 _ _ rfl rfl
  exact Go.Rx.law_calls mixes named aw_run (m := 20000) (nx := 1) (heights_pure (by omega) a1 g0.2) hR (vs := [v0, .int .i64 a1]) (Go.Rx.VRL.cons g0.1 (Go.Rx.VRL.cons rfl rfl)) hf

set_option maxRecDepth 100000 in
theorem liftedFluidHeights (os : Os) (started : os.Started) (H : Type) (enc : TypeId × Value → H) :
    ReturnsInHanded {} Try.checked os 8 .any (Rows.fluidHeightsSpec.pre6 enc Try.prog Try.f8 Rows.fluidHeightsRow.domain false) (Rows.fluidHeightsSpec.post enc Try.prog Try.f8 false true false false) := by
  refine returnsInHanded_of_change (C := Try.checked) own started (by kernel_rfl) Try.func8
    (ChangeSpec.witness6 (enc := enc) (C := Try.checked) false ⟨#[], #[.slice none 0 0, .int .i64 0], []⟩ 16 (by kernel_rfl) (by kernel_rfl) (by kernel_rfl) (by kernel_rfl)) ?_
  intro W base args ds gs before hval0 hW hcnd _
  have hval : ∀ (j : Nat) t v, Try.f8.params[j]? = some t → args[j]? = some v → Value.okWide Try.prog W .any base t v := hval0
  have hW' := hW
  obtain ⟨p, q, hA0, hV, rfl, hfz, hnd⟩ := hW
  have hA : DataW.TrodAll enc Try.prog W 0 (fun _ => true) true Try.f8.params.toList args.toList ds p := hA0
  rw [Try.params8] at hA hval
  obtain ⟨v0, vs0, d0, ds0, p0, q0, hargs, rfl, rfl, h0, r0⟩ := trodAll_cons hA
  obtain ⟨v1, vs1, d1, ds1, p1, q1, rfl, rfl, rfl, h1, r1⟩ := trodAll_cons r0
  obtain ⟨rfl, rfl, rfl⟩ := trodAll_nil r1
  obtain rfl : args = #[v0, v1] := by cases args; simp_all
  obtain ⟨rfl, rfl⟩ := trodVars_none hV
  have k0 := h0
  have lt0 : ∀ x ∈ p0, x.block < W.heap.size := by obtain ⟨m, hm⟩ := k0; exact DataW.trod_lt m _ _ _ hm
  obtain ⟨u0, s0⟩ := Go.Rx.val_intsL Try.underlying64 Try.underlying2 (by kernel_rfl) (hval 0 _ v0 rfl rfl) h0
  have k1 := h1
  have lt1 : ∀ x ∈ p1, x.block < W.heap.size := by obtain ⟨m, hm⟩ := k1; exact DataW.trod_lt m _ _ _ hm
  obtain ⟨a1, rfl, b1⟩ := val_int (by kernel_rfl) (hval 1 _ v1 rfl rfl)
  clear hA0 hval0
  refine (fluidHeights_walk W v0 u0 s0 a1 b1).mono fun e W' ⟨he, bel⟩ => ?_
  subst he
  exact ⟨_, rfl, _, _, _, [], _, [], hW', trodAll_mk1 (shut_bool Try.underlying4 _), (trodAll_cons_mk (Below.trod laidOut (by kernel_rfl) (of_decide_eq_true (by kernel_rfl)) k0 bel lt0) (trodAll_cons_mk (Below.trod laidOut (by kernel_rfl) (of_decide_eq_true (by kernel_rfl)) k1 bel lt1) trodAll_mk0)), rfl, bel.frame _, fun h => by cases h⟩

/-- FluidHeights returns true for every input. -/
theorem fluidHeights_holds : Rows.FluidHeightsSaid :=
  OpenClaim.holds_of_wide 8 Try.f8 rfl rfl rfl rfl rfl rfl rfl ⟨rfl, rfl, rfl, rfl, rfl⟩ rfl rfl rfl rfl rfl (by kernel_rfl) Try.func8 (by kernel_rfl)
    (of_decide_eq_true (by kernel_rfl)) (by unfold Func.isWrapper; first | (rw [if_pos (by decide +kernel)]; kernel_rfl) | (rw [if_neg (by decide +kernel)]; exact ⟨rfl, rfl⟩))
    (fun os started H enc _ => liftedFluidHeights os started H enc)

end Go.Proofs.Ytgjnkdedknpniaa
