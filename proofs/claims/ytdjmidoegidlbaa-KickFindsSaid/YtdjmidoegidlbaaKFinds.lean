/- KickFinds returns true for whatever is read from a well, and leaves it as it was. -/
import Derived.Test.YtdjmidoegidlbaaKp
import Derived.Test.YtdjmidoegidlbaaKg
import Derived.Test.YtdjmidoegidlbaaKr
namespace Go.Proofs.Ytdjmidoegidlbaa
open Go.ChangeShapes Go.WideShapes Go.ChangeAt Go.RowKit

/-- Both functions return the same influx and error. -/
def BothI (pl ph cl ch gl gh wt dp ar a b c d e f k z : Int) : Prop :=
  (∀ w : World, Calls Try.prog 46 #[.agg (xv pl ph cl ch gl gh wt dp ar)] w fun e' w' => e' = .returned (.tuple #[.agg (iv a b c d e f k), .int .i64 z]) ∧ Below w.heap.size w w') ∧
  ∀ w : World, Calls Try.prog 47 #[.agg (xv pl ph cl ch gl gh wt dp ar)] w fun e' w' => e' = .returned (.tuple #[.agg (iv a b c d e f k), .int .i64 z]) ∧ Below w.heap.size w w'
theorem bothI (pl ph cl ch gl gh wt dp ar : Int) : ∃ a b c d e f k z, BothI pl ph cl ch gl gh wt dp ar a b c d e f k z := by
  cases h : shutB pl ph cl ch gl gh wt dp ar
  · exact ⟨0, 0, 0, 0, 0, 0, 0, 2, fun w => ident_err pl ph cl ch gl gh wt dp ar 2 (by decide) (fun w => shut_range pl ph cl ch gl gh wt dp ar h w) w, fun w => rident_err pl ph cl ch gl gh wt dp ar 2 (by decide) (fun w => rshut_range pl ph cl ch gl gh wt dp ar h w) w⟩
  · by_cases hc : cl < ph
    · exact ⟨0, 0, 0, 0, 0, 0, 0, 11, fun w => ident_err pl ph cl ch gl gh wt dp ar 11 (by decide) (fun w => shut_order pl ph cl ch gl gh wt dp ar h hc w) w, fun w => rident_err pl ph cl ch gl gh wt dp ar 11 (by decide) (fun w => rshut_order pl ph cl ch gl gh wt dp ar h hc w) w⟩
    · exact ⟨_, _, _, _, _, _, _, _, fun w => ident_ok pl ph cl ch gl gh wt dp ar h hc w, fun w => rident_ok pl ph cl ch gl gh wt dp ar h hc w⟩

set_option maxRecDepth 100000 in
set_option maxHeartbeats 800000 in
theorem walkFinds (w : World) (pl ph cl ch gl gh wt dp ar : Int) (_hb : ∀ z ∈ [pl, ph, cl, ch, gl, gh, wt, dp, ar], IntKind.i64.has z) :
    Calls Try.prog 7 #[.agg ([pl, ph, cl, ch, gl, gh, wt, dp, ar].map (Value.int .i64)).toArray] w fun e w' => e = .returned (.bool true) ∧ Below w.heap.size w w' := by
  obtain ⟨a, b, c, d, e, f, k, z, hx, hy⟩ := bothI pl ph cl ch gl gh wt dp ar
  have HX : Aside (∀ w : World, Calls Try.prog 46 #[.agg (xv pl ph cl ch gl gh wt dp ar)] w fun e' w' => e' = .returned (.tuple #[.agg (iv a b c d e f k), .int .i64 z]) ∧ Below w.heap.size w w') := hx
  have HY : Aside (∀ w : World, Calls Try.prog 47 #[.agg (xv pl ph cl ch gl gh wt dp ar)] w fun e' w' => e' = .returned (.tuple #[.agg (iv a b c d e f k), .int .i64 z]) ∧ Below w.heap.size w w') := hy
  clear hx hy _hb
  simp only [List.map_cons, List.map_nil]
  go_enter Try.func7, Try.ntmps7
  go_wp2_with fail
  refine (HX.out _).mono ?_
  rintro e1 w1 ⟨rfl, hb1⟩
  obtain ⟨hc1, -⟩ := bcell hb1
  simp only [World.size_alloc] at hc1
  have hsz1 : w.heap.size < w1.heap.size := by have := hb1.size; simp at this; omega
  have q0 : w1.cell? ⟨w.heap.size, 0, none⟩ = some (.int .i64 pl) := (hc1 _ _ (by omega)).trans (by simp [go_sem])
  have q1 : w1.cell? ⟨w.heap.size, 1, none⟩ = some (.int .i64 ph) := (hc1 _ _ (by omega)).trans (by simp [go_sem])
  have q2 : w1.cell? ⟨w.heap.size, 2, none⟩ = some (.int .i64 cl) := (hc1 _ _ (by omega)).trans (by simp [go_sem])
  have q3 : w1.cell? ⟨w.heap.size, 3, none⟩ = some (.int .i64 ch) := (hc1 _ _ (by omega)).trans (by simp [go_sem])
  have q4 : w1.cell? ⟨w.heap.size, 4, none⟩ = some (.int .i64 gl) := (hc1 _ _ (by omega)).trans (by simp [go_sem])
  have q5 : w1.cell? ⟨w.heap.size, 5, none⟩ = some (.int .i64 gh) := (hc1 _ _ (by omega)).trans (by simp [go_sem])
  have q6 : w1.cell? ⟨w.heap.size, 6, none⟩ = some (.int .i64 wt) := (hc1 _ _ (by omega)).trans (by simp [go_sem])
  have q7 : w1.cell? ⟨w.heap.size, 7, none⟩ = some (.int .i64 dp) := (hc1 _ _ (by omega)).trans (by simp [go_sem])
  have q8 : w1.cell? ⟨w.heap.size, 8, none⟩ = some (.int .i64 ar) := (hc1 _ _ (by omega)).trans (by simp [go_sem])
  clear hc1
  go_wp2_with fail
  refine (HY.out _).mono ?_
  rintro e2 w2 ⟨rfl, hb2⟩
  obtain ⟨hc2, -⟩ := bcell hb2
  simp only [World.size_alloc] at hc2
  have r0 : w2.cell? ⟨w1.heap.size, 0, none⟩ = some (.int .i64 a) := (hc2 _ _ (by omega)).trans (by simp [go_sem])
  have r1 : w2.cell? ⟨w1.heap.size, 1, none⟩ = some (.int .i64 b) := (hc2 _ _ (by omega)).trans (by simp [go_sem])
  have r2 : w2.cell? ⟨w1.heap.size, 2, none⟩ = some (.int .i64 c) := (hc2 _ _ (by omega)).trans (by simp [go_sem])
  have r3 : w2.cell? ⟨w1.heap.size, 3, none⟩ = some (.int .i64 d) := (hc2 _ _ (by omega)).trans (by simp [go_sem])
  have r4 : w2.cell? ⟨w1.heap.size, 4, none⟩ = some (.int .i64 e) := (hc2 _ _ (by omega)).trans (by simp [go_sem])
  have r5 : w2.cell? ⟨w1.heap.size, 5, none⟩ = some (.int .i64 f) := (hc2 _ _ (by omega)).trans (by simp [go_sem])
  have r6 : w2.cell? ⟨w1.heap.size, 6, none⟩ = some (.int .i64 k) := (hc2 _ _ (by omega)).trans (by simp [go_sem])
  have hbw : Below w.heap.size w w2 := bel_trans ((bel_trans (by go_grown) hb1).alloc (Nat.le_of_lt hsz1) _) hb2
  have hsz2 : w1.heap.size < w2.heap.size := by have := hb2.size; simp at this; omega
  clear hc2 hb1 hb2
  go_wp2_with (go_at_call 11; refine (awake_any _).mono ?_; rintro e w3 ⟨rfl, hb3⟩)
  go_ret
  refine ⟨rfl, ?_⟩
  refine bel_trans ?_ hb3
  exact hbw.alloc hbw.size _

set_option maxRecDepth 100000 in
theorem liftedKickFinds (os : Os) (started : os.Started) (H : Type) (enc : TypeId × Value → H) :
    ReturnsInHanded {} Try.checked os 7 .any (Rows.kickFindsSpec.pre6 enc Try.prog Try.f7 Rows.kickFindsRow.domain false) (Rows.kickFindsSpec.post enc Try.prog Try.f7 false true false false) := by
  refine returnsInHanded_of_change (C := Try.checked) own started (by kernel_rfl) Try.func7
    (ChangeSpec.witness6 (enc := enc) (C := Try.checked) false ⟨#[], #[.agg #[.int .i64 0, .int .i64 0, .int .i64 0, .int .i64 0, .int .i64 0, .int .i64 0, .int .i64 0, .int .i64 0, .int .i64 0]], []⟩ 16 (by kernel_rfl) (by kernel_rfl) (by kernel_rfl) (by kernel_rfl)) ?_
  intro W base args ds gs before hval0 hW hcnd _
  have hval : ∀ (j : Nat) t v, Try.f7.params[j]? = some t → args[j]? = some v → Value.okWide Try.prog W .any base t v := hval0
  have hW' := hW
  obtain ⟨p, q, hA0, hV, rfl, hfz, hnd⟩ := hW
  have hA : DataW.TrodAll enc Try.prog W 0 (fun _ => true) true Try.f7.params.toList args.toList ds p := hA0
  rw [Try.params7] at hA hval
  obtain ⟨v0, vs0, d0, ds0, p0, q0, hargs, rfl, rfl, h0, r0⟩ := trodAll_cons hA
  obtain ⟨rfl, rfl, rfl⟩ := trodAll_nil r0
  obtain rfl : args = #[v0] := by cases args; simp_all
  obtain ⟨rfl, rfl⟩ := trodVars_none hV
  have k0 := h0
  have lt0 : ∀ x ∈ p0, x.block < W.heap.size := by obtain ⟨m, hm⟩ := k0; exact DataW.trod_lt m _ _ _ hm
  obtain ⟨z0, rfl, l0, b0⟩ := agg_ints (ts := [2, 2, 2, 2, 2, 2, 2, 2, 2]) Try.underlying70 (by kernel_rfl) (by kernel_rfl) (by kernel_rfl) (hval 0 _ v0 rfl rfl)
  obtain ⟨a0x0, a0x1, a0x2, a0x3, a0x4, a0x5, a0x6, a0x7, a0x8, rfl⟩ := list9 l0
  clear hA0 hval0
  refine (walkFinds W a0x0 a0x1 a0x2 a0x3 a0x4 a0x5 a0x6 a0x7 a0x8 b0).mono fun e W' ⟨he, bel⟩ => ?_
  subst he
  exact ⟨_, rfl, _, _, _, [], _, [], hW', trodAll_mk1 (shut_bool Try.underlying4 _), (trodAll_cons_mk (Below.trod laidOut (by kernel_rfl) (of_decide_eq_true (by kernel_rfl)) k0 bel lt0) trodAll_mk0), rfl, bel.frame _, fun h => by cases h⟩

/-- KickFinds returns true for every input. -/
theorem kickFinds_holds : Rows.KickFindsSaid :=
  OpenClaim.holds_of_wide 7 Try.f7 rfl rfl rfl rfl rfl rfl rfl ⟨rfl, rfl, rfl, rfl, rfl⟩ rfl rfl rfl rfl rfl (by kernel_rfl) Try.func7 (by kernel_rfl)
    (of_decide_eq_true (by kernel_rfl)) (by unfold Func.isWrapper; first | (rw [if_pos (by decide +kernel)]; kernel_rfl) | (rw [if_neg (by decide +kernel)]; exact ⟨rfl, rfl⟩))
    (fun os started H enc _ => liftedKickFinds os started H enc)

end Go.Proofs.Ytdjmidoegidlbaa
