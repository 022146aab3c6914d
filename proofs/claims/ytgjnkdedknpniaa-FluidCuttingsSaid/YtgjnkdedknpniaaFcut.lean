/- FluidCuttings holds for every input: which cuttings are carried, with which load, and how heavy a mud is with it, are as the document says, and the examples hold. No condition. -/
import Derived.Test.YtgjnkdedknpniaaFd
import Derived.Test.YtgjnkdedknpniaaFw
import Derived.Test.YtgjnkdedknpniaaKr
import Derived.ChangeSame
namespace Go.Proofs.Ytgjnkdedknpniaa
open Go.ChangeShapes Go.WideShapes Go.ChangeAt Go.RowKit

theorem cut_walk (W : World) (a b c e : Int) (_ : ∀ z ∈ [a, b, c, e], IntKind.i64.has z) (feed : Int) (_ : IntKind.i64.has feed) (flow : Int) (_ : IntKind.i64.has flow) (slip : Int) (_ : IntKind.i64.has slip) (weight : Int) (_ : IntKind.i64.has weight) (rock : Int) (_ : IntKind.i64.has rock) (load : Int) (_ : IntKind.i64.has load) :
    Calls Try.prog 7 #[.agg ([a, b, c, e].map (Value.int .i64)).toArray, .int .i64 feed, .int .i64 flow, .int .i64 slip, .int .i64 weight, .int .i64 rock, .int .i64 load] W fun e w' => e = .returned (.bool true) ∧ Below W.heap.size W w' :=
  Go.Rx.law_calls mixes named aw_run (m := 1000) (H := .l) (nx := 0) (R := fun _ => none) (cut_pure (by omega) a b c e feed flow slip weight rock load) Go.Rx.rel_empty (vs := [.agg ([a, b, c, e].map (Value.int .i64)).toArray, .int .i64 feed, .int .i64 flow, .int .i64 slip, .int .i64 weight, .int .i64 rock, .int .i64 load])
    (Go.Rx.VRL.cons (Go.Rx.vr_agg [a, b, c, e]) (Go.Rx.vrl_ints [feed, flow, slip, weight, rock, load])) (fun _ _ => rfl)

set_option maxRecDepth 100000 in
theorem liftedFluidCuttings (os : Os) (started : os.Started) (H : Type) (enc : TypeId × Value → H) :
    ReturnsInHanded {} Try.checked os 7 .any (Rows.fluidCuttingsSpec.pre6 enc Try.prog Try.f7 Rows.fluidCuttingsRow.domain false) (Rows.fluidCuttingsSpec.post enc Try.prog Try.f7 false true false false) := by
  refine returnsInHanded_of_change (C := Try.checked) own started (by kernel_rfl) Try.func7
    (ChangeSpec.witness6 (enc := enc) (C := Try.checked) false ⟨#[], #[.agg #[.int .i64 0, .int .i64 0, .int .i64 0, .int .i64 0], .int .i64 0, .int .i64 0, .int .i64 0, .int .i64 0, .int .i64 0, .int .i64 0], []⟩ 16 (by kernel_rfl) (by kernel_rfl) (by kernel_rfl) (by kernel_rfl)) ?_
  intro W base args ds gs before hval0 hW hcnd _
  have hval : ∀ (j : Nat) t v, Try.f7.params[j]? = some t → args[j]? = some v → Value.okWide Try.prog W .any base t v := hval0
  have hW' := hW
  obtain ⟨p, q, hA0, hV, rfl, hfz, hnd⟩ := hW
  have hA : DataW.TrodAll enc Try.prog W 0 (fun _ => true) true Try.f7.params.toList args.toList ds p := hA0
  rw [Try.params7] at hA hval
  obtain ⟨v0, vs0, d0, ds0, p0, q0, hargs, rfl, rfl, h0, r0⟩ := trodAll_cons hA
  obtain ⟨v1, vs1, d1, ds1, p1, q1, rfl, rfl, rfl, h1, r1⟩ := trodAll_cons r0
  obtain ⟨v2, vs2, d2, ds2, p2, q2, rfl, rfl, rfl, h2, r2⟩ := trodAll_cons r1
  obtain ⟨v3, vs3, d3, ds3, p3, q3, rfl, rfl, rfl, h3, r3⟩ := trodAll_cons r2
  obtain ⟨v4, vs4, d4, ds4, p4, q4, rfl, rfl, rfl, h4, r4⟩ := trodAll_cons r3
  obtain ⟨v5, vs5, d5, ds5, p5, q5, rfl, rfl, rfl, h5, r5⟩ := trodAll_cons r4
  obtain ⟨v6, vs6, d6, ds6, p6, q6, rfl, rfl, rfl, h6, r6⟩ := trodAll_cons r5
  obtain ⟨rfl, rfl, rfl⟩ := trodAll_nil r6
  obtain rfl : args = #[v0, v1, v2, v3, v4, v5, v6] := by cases args; simp_all
  obtain ⟨rfl, rfl⟩ := trodVars_none hV
  have k0 := h0
  have lt0 : ∀ x ∈ p0, x.block < W.heap.size := by obtain ⟨m, hm⟩ := k0; exact DataW.trod_lt m _ _ _ hm
  obtain ⟨z0, rfl, l0, b0⟩ := agg_ints (ts := [2, 2, 2, 2]) Try.underlying44 (by kernel_rfl) (by kernel_rfl) (by kernel_rfl) (hval 0 _ v0 rfl rfl)
  obtain ⟨a0x0, a0x1, a0x2, a0x3, rfl⟩ := list4 l0
  have k1 := h1
  have lt1 : ∀ x ∈ p1, x.block < W.heap.size := by obtain ⟨m, hm⟩ := k1; exact DataW.trod_lt m _ _ _ hm
  obtain ⟨a1, rfl, b1⟩ := val_int (by kernel_rfl) (hval 1 _ v1 rfl rfl)
  have k2 := h2
  have lt2 : ∀ x ∈ p2, x.block < W.heap.size := by obtain ⟨m, hm⟩ := k2; exact DataW.trod_lt m _ _ _ hm
  obtain ⟨a2, rfl, b2⟩ := val_int (by kernel_rfl) (hval 2 _ v2 rfl rfl)
  have k3 := h3
  have lt3 : ∀ x ∈ p3, x.block < W.heap.size := by obtain ⟨m, hm⟩ := k3; exact DataW.trod_lt m _ _ _ hm
  obtain ⟨a3, rfl, b3⟩ := val_int (by kernel_rfl) (hval 3 _ v3 rfl rfl)
  have k4 := h4
  have lt4 : ∀ x ∈ p4, x.block < W.heap.size := by obtain ⟨m, hm⟩ := k4; exact DataW.trod_lt m _ _ _ hm
  obtain ⟨a4, rfl, b4⟩ := val_int (by kernel_rfl) (hval 4 _ v4 rfl rfl)
  have k5 := h5
  have lt5 : ∀ x ∈ p5, x.block < W.heap.size := by obtain ⟨m, hm⟩ := k5; exact DataW.trod_lt m _ _ _ hm
  obtain ⟨a5, rfl, b5⟩ := val_int (by kernel_rfl) (hval 5 _ v5 rfl rfl)
  have k6 := h6
  have lt6 : ∀ x ∈ p6, x.block < W.heap.size := by obtain ⟨m, hm⟩ := k6; exact DataW.trod_lt m _ _ _ hm
  obtain ⟨a6, rfl, b6⟩ := val_int (by kernel_rfl) (hval 6 _ v6 rfl rfl)
  clear hA0 hval0
  refine (cut_walk W a0x0 a0x1 a0x2 a0x3 b0 a1 b1 a2 b2 a3 b3 a4 b4 a5 b5 a6 b6).mono fun e W' ⟨he, bel⟩ => ?_
  subst he
  exact ⟨_, rfl, _, _, _, [], _, [], hW', trodAll_mk1 (shut_bool Try.underlying4 _), (trodAll_cons_mk (Below.trod laidOut (by kernel_rfl) (of_decide_eq_true (by kernel_rfl)) k0 bel lt0) (trodAll_cons_mk (Below.trod laidOut (by kernel_rfl) (of_decide_eq_true (by kernel_rfl)) k1 bel lt1) (trodAll_cons_mk (Below.trod laidOut (by kernel_rfl) (of_decide_eq_true (by kernel_rfl)) k2 bel lt2) (trodAll_cons_mk (Below.trod laidOut (by kernel_rfl) (of_decide_eq_true (by kernel_rfl)) k3 bel lt3) (trodAll_cons_mk (Below.trod laidOut (by kernel_rfl) (of_decide_eq_true (by kernel_rfl)) k4 bel lt4) (trodAll_cons_mk (Below.trod laidOut (by kernel_rfl) (of_decide_eq_true (by kernel_rfl)) k5 bel lt5) (trodAll_cons_mk (Below.trod laidOut (by kernel_rfl) (of_decide_eq_true (by kernel_rfl)) k6 bel lt6) trodAll_mk0))))))), rfl, bel.frame _, fun h => by cases h⟩

/-- FluidCuttings returns true for every input. -/
theorem fluidCuttings_holds : Rows.FluidCuttingsSaid :=
  OpenClaim.holds_of_wide 7 Try.f7 rfl rfl rfl rfl rfl rfl rfl ⟨rfl, rfl, rfl, rfl, rfl⟩ rfl rfl rfl rfl rfl (by kernel_rfl) Try.func7 (by kernel_rfl)
    (of_decide_eq_true (by kernel_rfl)) (by unfold Func.isWrapper; first | (rw [if_pos (by decide +kernel)]; kernel_rfl) | (rw [if_neg (by decide +kernel)]; exact ⟨rfl, rfl⟩))
    (fun os started H enc _ => liftedFluidCuttings os started H enc)

end Go.Proofs.Ytgjnkdedknpniaa
