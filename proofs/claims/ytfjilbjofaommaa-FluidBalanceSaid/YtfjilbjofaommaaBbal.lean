/- what is pumped in and what comes out have the same volume, the column stays valid and plain, and two slugs of one weight may be pumped in either order; and the examples hold. No condition. -/
import Derived.Test.YtfjilbjofaommaaBj
import Derived.Test.YtfjilbjofaommaaMw
import Derived.Test.YtfjilbjofaommaaKr
import Derived.Test.YtfjilbjofaommaaLm
import Derived.ChangeSame
set_option linter.unusedVariables false
namespace Go.Proofs.Ytfjilbjofaommaa
open Go.ChangeShapes Go.WideShapes Go.ChangeAt Go.RowKit

theorem fluidBalance_walk (W : World) (v0 : Value) (l0 : Go.Rx.Ll) (s0 : Go.Rx.SlArg W [.int .i64] v0 l0) (v1 : Value) (l1 : Go.Rx.Ll) (s1 : Go.Rx.SlArg W [.int .i64] v1 l1) (a2 : Int) (h2 : IntKind.i64.has a2) (a3 : Int) (h3 : IntKind.i64.has a3) (a4 : Int) (h4 : IntKind.i64.has a4) :
    Calls Try.prog 6 #[v0, v1, .int .i64 a2, .int .i64 a3, .int .i64 a4] W fun e w' => e = .returned (.bool true) ∧ Below W.heap.size W w' := by
  obtain ⟨R, H, lvs, hR, hf, hn, hall⟩ := Go.Rx.lists_in (w := W) (l := [(v0, [.int .i64], l0), (v1, [.int .i64], l1)]) (by
    intro x hx
    simp only [List.mem_cons, List.not_mem_nil, or_false] at hx
    rcases hx with rfl | rfl
    · exact s0
    · exact s1)
  obtain ⟨x0, x1, rfl⟩ := Go.Rx.len2 hn
  have g0 := hall 0 _ _ rfl rfl
  have g1 := hall 1 _ _ rfl rfl
  exact Go.Rx.law_calls mixes named aw_run (m := 20000) (nx := 2) (balance_pure (by omega) a2 a3 a4 g0.2 g1.2) hR (vs := [v0, v1, .int .i64 a2, .int .i64 a3, .int .i64 a4]) (Go.Rx.VRL.cons g0.1 (Go.Rx.VRL.cons g1.1 (Go.Rx.VRL.cons rfl (Go.Rx.VRL.cons rfl (Go.Rx.VRL.cons rfl rfl))))) hf

set_option maxRecDepth 100000 in
theorem liftedFluidBalance (os : Os) (started : os.Started) (H : Type) (enc : TypeId × Value → H) :
    ReturnsInHanded {} Try.checked os 6 .any (Rows.fluidBalanceSpec.pre6 enc Try.prog Try.f6 Rows.fluidBalanceRow.domain false) (Rows.fluidBalanceSpec.post enc Try.prog Try.f6 false true false false) := by
  refine returnsInHanded_of_change (C := Try.checked) own started (by kernel_rfl) Try.func6
    (ChangeSpec.witness6 (enc := enc) (C := Try.checked) false ⟨#[], #[.slice none 0 0, .slice none 0 0, .int .i64 0, .int .i64 0, .int .i64 0], []⟩ 16 (by kernel_rfl) (by kernel_rfl) (by kernel_rfl) (by kernel_rfl)) ?_
  intro W base args ds gs before hval0 hW hcnd _
  have hval : ∀ (j : Nat) t v, Try.f6.params[j]? = some t → args[j]? = some v → Value.okWide Try.prog W .any base t v := hval0
  have hW' := hW
  obtain ⟨p, q, hA0, hV, rfl, hfz, hnd⟩ := hW
  have hA : DataW.TrodAll enc Try.prog W 0 (fun _ => true) true Try.f6.params.toList args.toList ds p := hA0
  rw [Try.params6] at hA hval
  obtain ⟨v0, vs0, d0, ds0, p0, q0, hargs, rfl, rfl, h0, r0⟩ := trodAll_cons hA
  obtain ⟨v1, vs1, d1, ds1, p1, q1, rfl, rfl, rfl, h1, r1⟩ := trodAll_cons r0
  obtain ⟨v2, vs2, d2, ds2, p2, q2, rfl, rfl, rfl, h2, r2⟩ := trodAll_cons r1
  obtain ⟨v3, vs3, d3, ds3, p3, q3, rfl, rfl, rfl, h3, r3⟩ := trodAll_cons r2
  obtain ⟨v4, vs4, d4, ds4, p4, q4, rfl, rfl, rfl, h4, r4⟩ := trodAll_cons r3
  obtain ⟨rfl, rfl, rfl⟩ := trodAll_nil r4
  obtain rfl : args = #[v0, v1, v2, v3, v4] := by cases args; simp_all
  obtain ⟨rfl, rfl⟩ := trodVars_none hV
  have k0 := h0
  have lt0 : ∀ x ∈ p0, x.block < W.heap.size := by obtain ⟨m, hm⟩ := k0; exact DataW.trod_lt m _ _ _ hm
  obtain ⟨u0, s0⟩ := Go.Rx.val_intsL Try.underlying22 Try.underlying2 (by kernel_rfl) (hval 0 _ v0 rfl rfl) h0
  have k1 := h1
  have lt1 : ∀ x ∈ p1, x.block < W.heap.size := by obtain ⟨m, hm⟩ := k1; exact DataW.trod_lt m _ _ _ hm
  obtain ⟨u1, s1⟩ := Go.Rx.val_intsL Try.underlying22 Try.underlying2 (by kernel_rfl) (hval 1 _ v1 rfl rfl) h1
  have k2 := h2
  have lt2 : ∀ x ∈ p2, x.block < W.heap.size := by obtain ⟨m, hm⟩ := k2; exact DataW.trod_lt m _ _ _ hm
  obtain ⟨a2, rfl, b2⟩ := val_int (by kernel_rfl) (hval 2 _ v2 rfl rfl)
  have k3 := h3
  have lt3 : ∀ x ∈ p3, x.block < W.heap.size := by obtain ⟨m, hm⟩ := k3; exact DataW.trod_lt m _ _ _ hm
  obtain ⟨a3, rfl, b3⟩ := val_int (by kernel_rfl) (hval 3 _ v3 rfl rfl)
  have k4 := h4
  have lt4 : ∀ x ∈ p4, x.block < W.heap.size := by obtain ⟨m, hm⟩ := k4; exact DataW.trod_lt m _ _ _ hm
  obtain ⟨a4, rfl, b4⟩ := val_int (by kernel_rfl) (hval 4 _ v4 rfl rfl)
  clear hA0 hval0
  refine (fluidBalance_walk W v0 u0 s0 v1 u1 s1 a2 b2 a3 b3 a4 b4).mono fun e W' ⟨he, bel⟩ => ?_
  subst he
  exact ⟨_, rfl, _, _, _, [], _, [], hW', trodAll_mk1 (shut_bool Try.underlying4 _), (trodAll_cons_mk (Below.trod laidOut (by kernel_rfl) (of_decide_eq_true (by kernel_rfl)) k0 bel lt0) (trodAll_cons_mk (Below.trod laidOut (by kernel_rfl) (of_decide_eq_true (by kernel_rfl)) k1 bel lt1) (trodAll_cons_mk (Below.trod laidOut (by kernel_rfl) (of_decide_eq_true (by kernel_rfl)) k2 bel lt2) (trodAll_cons_mk (Below.trod laidOut (by kernel_rfl) (of_decide_eq_true (by kernel_rfl)) k3 bel lt3) (trodAll_cons_mk (Below.trod laidOut (by kernel_rfl) (of_decide_eq_true (by kernel_rfl)) k4 bel lt4) trodAll_mk0))))), rfl, bel.frame _, fun h => by cases h⟩

/-- FluidBalance returns true for every input. -/
theorem fluidBalance_holds : Rows.FluidBalanceSaid :=
  OpenClaim.holds_of_wide 6 Try.f6 rfl rfl rfl rfl rfl rfl rfl ⟨rfl, rfl, rfl, rfl, rfl⟩ rfl rfl rfl rfl rfl (by kernel_rfl) Try.func6 (by kernel_rfl)
    (of_decide_eq_true (by kernel_rfl)) (by unfold Func.isWrapper; first | (rw [if_pos (by decide +kernel)]; kernel_rfl) | (rw [if_neg (by decide +kernel)]; exact ⟨rfl, rfl⟩))
    (fun os started H enc _ => liftedFluidBalance os started H enc)

end Go.Proofs.Ytfjilbjofaommaa
