/- CasingCements holds for every input: how far cement rises, or which error there is, is what the document says; and the examples hold. No condition. -/
import Derived.Test.YtbhpegjaafinlaaCa
import Derived.Test.YtbhpegjaafinlaaMw
import Derived.Test.YtbhpegjaafinlaaKr
import Derived.Test.YtbhpegjaafinlaaLm
import Derived.ChangeSame
set_option linter.unusedVariables false
namespace Go.Proofs.Ytbhpegjaafinlaa
open Go.ChangeShapes Go.WideShapes Go.ChangeAt Go.RowKit

theorem casingCements_walk (W : World) (v0 : Value) (l0 : Go.Rx.Ll) (s0 : Go.Rx.SlArg W [.int .i64, .int .i64, .int .i64, .int .i64] v0 l0) (a1 : Int) (h1 : IntKind.i64.has a1) :
    Calls Try.prog 4 #[.agg #[v0], .int .i64 a1] W fun e w' => e = .returned (.bool true) ∧ Below W.heap.size W w' := by
  obtain ⟨R, H, lvs, hR, hf, hn, hall⟩ := Go.Rx.lists_in (w := W) (l := [(v0, [.int .i64, .int .i64, .int .i64, .int .i64], l0)]) (by
    intro x hx
    simp only [List.mem_cons, List.not_mem_nil, or_false] at hx
    rcases hx with rfl
    · exact s0)
  obtain ⟨x0, rfl⟩ := Go.Rx.len1 hn
  have g0 := hall 0 _ _ rfl rfl
  exact Go.Rx.law_calls mixes named aw_run (m := 20000) (nx := 1) (cements_pure (by omega) a1 g0.2) hR (vs := [.agg #[v0], .int .i64 a1]) (Go.Rx.VRL.cons ⟨_, rfl, Go.Rx.VRL.cons g0.1 rfl⟩ (Go.Rx.VRL.cons rfl rfl)) hf

set_option maxRecDepth 100000 in
theorem liftedCasingCements (os : Os) (started : os.Started) (H : Type) (enc : TypeId × Value → H) :
    ReturnsInHanded {} Try.checked os 4 .any (Rows.casingCementsSpec.pre6 enc Try.prog Try.f4 Rows.casingCementsRow.domain false) (Rows.casingCementsSpec.post enc Try.prog Try.f4 false true false false) := by
  refine returnsInHanded_of_change (C := Try.checked) own started (by kernel_rfl) Try.func4
    (ChangeSpec.witness6 (enc := enc) (C := Try.checked) false ⟨#[], #[.agg #[.slice none 0 0], .int .i64 0], []⟩ 16 (by kernel_rfl) (by kernel_rfl) (by kernel_rfl) (by kernel_rfl)) ?_
  intro W base args ds gs before hval0 hW hcnd _
  have hval : ∀ (j : Nat) t v, Try.f4.params[j]? = some t → args[j]? = some v → Value.okWide Try.prog W .any base t v := hval0
  have hW' := hW
  obtain ⟨p, q, hA0, hV, rfl, hfz, hnd⟩ := hW
  have hA : DataW.TrodAll enc Try.prog W 0 (fun _ => true) true Try.f4.params.toList args.toList ds p := hA0
  rw [Try.params4] at hA hval
  obtain ⟨v0, vs0, d0, ds0, p0, q0, hargs, rfl, rfl, h0, r0⟩ := trodAll_cons hA
  obtain ⟨v1, vs1, d1, ds1, p1, q1, rfl, rfl, rfl, h1, r1⟩ := trodAll_cons r0
  obtain ⟨rfl, rfl, rfl⟩ := trodAll_nil r1
  obtain rfl : args = #[v0, v1] := by cases args; simp_all
  obtain ⟨rfl, rfl⟩ := trodVars_none hV
  have k0 := h0
  have lt0 : ∀ x ∈ p0, x.block < W.heap.size := by obtain ⟨m, hm⟩ := k0; exact DataW.trod_lt m _ _ _ hm
  obtain ⟨x0, u0, rfl, s0⟩ := Go.Rx.val_lineL (ks := [.int .i64, .int .i64, .int .i64, .int .i64]) Try.underlying25 rfl (by kernel_rfl) (by kernel_rfl) (by kernel_rfl) Try.underlying23 Try.underlying30 (by kernel_rfl) (by kernel_rfl) (by kernel_rfl) (hval 0 _ v0 rfl rfl) h0
  have k1 := h1
  have lt1 : ∀ x ∈ p1, x.block < W.heap.size := by obtain ⟨m, hm⟩ := k1; exact DataW.trod_lt m _ _ _ hm
  obtain ⟨a1, rfl, b1⟩ := val_int (by kernel_rfl) (hval 1 _ v1 rfl rfl)
  clear hA0 hval0
  refine (casingCements_walk W x0 u0 s0 a1 b1).mono fun e W' ⟨he, bel⟩ => ?_
  subst he
  exact ⟨_, rfl, _, _, _, [], _, [], hW', trodAll_mk1 (shut_bool Try.underlying4 _), (trodAll_cons_mk (Below.trod laidOut (by kernel_rfl) (of_decide_eq_true (by kernel_rfl)) k0 bel lt0) (trodAll_cons_mk (Below.trod laidOut (by kernel_rfl) (of_decide_eq_true (by kernel_rfl)) k1 bel lt1) trodAll_mk0)), rfl, bel.frame _, fun h => by cases h⟩

/-- CasingCements returns true for every input. -/
theorem casingCements_holds : Rows.CasingCementsSaid :=
  OpenClaim.holds_of_wide 4 Try.f4 rfl rfl rfl rfl rfl rfl rfl ⟨rfl, rfl, rfl, rfl, rfl⟩ rfl rfl rfl rfl rfl (by kernel_rfl) Try.func4 (by kernel_rfl)
    (of_decide_eq_true (by kernel_rfl)) (by unfold Func.isWrapper; first | (rw [if_pos (by decide +kernel)]; kernel_rfl) | (rw [if_neg (by decide +kernel)]; exact ⟨rfl, rfl⟩))
    (fun os started H enc _ => liftedCasingCements os started H enc)

end Go.Proofs.Ytbhpegjaafinlaa
