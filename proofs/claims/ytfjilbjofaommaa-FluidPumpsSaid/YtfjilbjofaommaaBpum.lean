/- both programs give the same column, the same slugs that came out and the same error, and leave the column as it was; and the examples hold. No condition. -/
import Derived.Test.YtfjilbjofaommaaBi
import Derived.Test.YtfjilbjofaommaaMw
import Derived.Test.YtfjilbjofaommaaKr
import Derived.Test.YtfjilbjofaommaaLm
import Derived.ChangeSame
set_option linter.unusedVariables false
namespace Go.Proofs.Ytfjilbjofaommaa
open Go.ChangeShapes Go.WideShapes Go.ChangeAt Go.RowKit

theorem fluidPumps_walk (W : World) (v0 : Value) (l0 : Go.Rx.Ll) (s0 : Go.Rx.SlArg W [.int .i64, .int .i64, .int .i64, .int .i64] v0 l0) (v1 : Value) (l1 : Go.Rx.Ll) (s1 : Go.Rx.SlArg W [.int .i64, .int .i64] v1 l1) (a2x0 a2x1 : Int) (h2 : ∀ z ∈ [a2x0, a2x1], IntKind.i64.has z) :
    Calls Try.prog 5 #[.agg #[v0], v1, .agg ([a2x0, a2x1].map (Value.int .i64)).toArray] W fun e w' => e = .returned (.bool true) ∧ Below W.heap.size W w' := by
  obtain ⟨R, H, lvs, hR, hf, hn, hall⟩ := Go.Rx.lists_in (w := W) (l := [(v0, [.int .i64, .int .i64, .int .i64, .int .i64], l0), (v1, [.int .i64, .int .i64], l1)]) (by
    intro x hx
    simp only [List.mem_cons, List.not_mem_nil, or_false] at hx
    rcases hx with rfl | rfl
    · exact s0
    · exact s1)
  obtain ⟨x0, x1, rfl⟩ := Go.Rx.len2 hn
  have g0 := hall 0 _ _ rfl rfl
  have g1 := hall 1 _ _ rfl rfl
  exact Go.Rx.law_calls mixes named aw_run (m := 20000) (nx := 2) (pumps_pure (by omega) a2x0 a2x1 g0.2 g1.2) hR (vs := [.agg #[v0], v1, .agg ([a2x0, a2x1].map (Value.int .i64)).toArray]) (Go.Rx.VRL.cons ⟨_, rfl, Go.Rx.VRL.cons g0.1 rfl⟩ (Go.Rx.VRL.cons g1.1 (Go.Rx.VRL.cons (Go.Rx.vr_agg [a2x0, a2x1]) rfl))) hf

set_option maxRecDepth 100000 in
theorem liftedFluidPumps (os : Os) (started : os.Started) (H : Type) (enc : TypeId × Value → H) :
    ReturnsInHanded {} Try.checked os 5 .any (Rows.fluidPumpsSpec.pre6 enc Try.prog Try.f5 Rows.fluidPumpsRow.domain false) (Rows.fluidPumpsSpec.post enc Try.prog Try.f5 false true false false) := by
  refine returnsInHanded_of_change (C := Try.checked) own started (by kernel_rfl) Try.func5
    (ChangeSpec.witness6 (enc := enc) (C := Try.checked) false ⟨#[], #[.agg #[.slice none 0 0], .slice none 0 0, .agg #[.int .i64 0, .int .i64 0]], []⟩ 16 (by kernel_rfl) (by kernel_rfl) (by kernel_rfl) (by kernel_rfl)) ?_
  intro W base args ds gs before hval0 hW hcnd _
  have hval : ∀ (j : Nat) t v, Try.f5.params[j]? = some t → args[j]? = some v → Value.okWide Try.prog W .any base t v := hval0
  have hW' := hW
  obtain ⟨p, q, hA0, hV, rfl, hfz, hnd⟩ := hW
  have hA : DataW.TrodAll enc Try.prog W 0 (fun _ => true) true Try.f5.params.toList args.toList ds p := hA0
  rw [Try.params5] at hA hval
  obtain ⟨v0, vs0, d0, ds0, p0, q0, hargs, rfl, rfl, h0, r0⟩ := trodAll_cons hA
  obtain ⟨v1, vs1, d1, ds1, p1, q1, rfl, rfl, rfl, h1, r1⟩ := trodAll_cons r0
  obtain ⟨v2, vs2, d2, ds2, p2, q2, rfl, rfl, rfl, h2, r2⟩ := trodAll_cons r1
  obtain ⟨rfl, rfl, rfl⟩ := trodAll_nil r2
  obtain rfl : args = #[v0, v1, v2] := by cases args; simp_all
  obtain ⟨rfl, rfl⟩ := trodVars_none hV
  have k0 := h0
  have lt0 : ∀ x ∈ p0, x.block < W.heap.size := by obtain ⟨m, hm⟩ := k0; exact DataW.trod_lt m _ _ _ hm
  obtain ⟨x0, u0, rfl, s0⟩ := Go.Rx.val_lineL (ks := [.int .i64, .int .i64, .int .i64, .int .i64]) Try.underlying25 rfl (by kernel_rfl) (by kernel_rfl) (by kernel_rfl) Try.underlying23 Try.underlying42 (by kernel_rfl) (by kernel_rfl) (by kernel_rfl) (hval 0 _ v0 rfl rfl) h0
  have k1 := h1
  have lt1 : ∀ x ∈ p1, x.block < W.heap.size := by obtain ⟨m, hm⟩ := k1; exact DataW.trod_lt m _ _ _ hm
  obtain ⟨u1, s1⟩ := Go.Rx.val_list (ks := [.int .i64, .int .i64]) Try.underlying27 Try.underlying32 (by kernel_rfl) (by kernel_rfl) (by kernel_rfl) (hval 1 _ v1 rfl rfl) h1
  have k2 := h2
  have lt2 : ∀ x ∈ p2, x.block < W.heap.size := by obtain ⟨m, hm⟩ := k2; exact DataW.trod_lt m _ _ _ hm
  obtain ⟨z2, rfl, l2, b2⟩ := agg_ints (ts := [2, 2]) Try.underlying32 (by kernel_rfl) (by kernel_rfl) (by kernel_rfl) (hval 2 _ v2 rfl rfl)
  obtain ⟨a2x0, a2x1, rfl⟩ := list2 l2
  clear hA0 hval0
  refine (fluidPumps_walk W x0 u0 s0 v1 u1 s1 a2x0 a2x1 b2).mono fun e W' ⟨he, bel⟩ => ?_
  subst he
  exact ⟨_, rfl, _, _, _, [], _, [], hW', trodAll_mk1 (shut_bool Try.underlying4 _), (trodAll_cons_mk (Below.trod laidOut (by kernel_rfl) (of_decide_eq_true (by kernel_rfl)) k0 bel lt0) (trodAll_cons_mk (Below.trod laidOut (by kernel_rfl) (of_decide_eq_true (by kernel_rfl)) k1 bel lt1) (trodAll_cons_mk (Below.trod laidOut (by kernel_rfl) (of_decide_eq_true (by kernel_rfl)) k2 bel lt2) trodAll_mk0))), rfl, bel.frame _, fun h => by cases h⟩

/-- FluidPumps returns true for every input. -/
theorem fluidPumps_holds : Rows.FluidPumpsSaid :=
  OpenClaim.holds_of_wide 5 Try.f5 rfl rfl rfl rfl rfl rfl rfl ⟨rfl, rfl, rfl, rfl, rfl⟩ rfl rfl rfl rfl rfl (by kernel_rfl) Try.func5 (by kernel_rfl)
    (of_decide_eq_true (by kernel_rfl)) (by unfold Func.isWrapper; first | (rw [if_pos (by decide +kernel)]; kernel_rfl) | (rw [if_neg (by decide +kernel)]; exact ⟨rfl, rfl⟩))
    (fun os started H enc _ => liftedFluidPumps os started H enc)

end Go.Proofs.Ytfjilbjofaommaa
