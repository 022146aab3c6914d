/- KickFalse returns true for every sensor and every number of draws, and leaves its arguments as they were. -/
import Derived.Test.YtdjmidoegidlbaaKh
import Derived.Test.YtdjmidoegidlbaaKr
namespace Go.Proofs.Ytdjmidoegidlbaa
open Go.ChangeShapes Go.WideShapes Go.ChangeAt Go.RowKit

/-- A sensor's check ends with an error of this number. -/
def Fails (f : Nat) (cs : Array Value) (er : Int) : Prop := ∀ w : World, Calls Try.prog f #[.agg cs] w fun e w' => e = .returned (.int .i64 er) ∧ w.alloc (.cells cs 29) = w'

set_option maxHeartbeats 400000 in
theorem false_err (c p d n s l m k dr er : Int) (her : (er != 0) = true) (h : Fails 16 (sv c p d n s l m k) er) (w : World) :
    Calls Try.prog 44 #[.agg (sv c p d n s l m k), .int .i64 dr] w fun e w' => e = .returned (.tuple #[.int .i64 0, .int .i64 0, .int .i64 er]) ∧ Below w.heap.size w w' := by
  go_enter Try.func44, Try.ntmps44
  go_wp2_with (go_at_call 16; refine (h _).mono ?_; rintro e w' ⟨rfl, rfl⟩)
  go_ret3
  exact ⟨rfl, by go_grown⟩
set_option maxRecDepth 100000 in
set_option maxHeartbeats 400000 in
theorem rfalse_err (c p d n s l m k dr er : Int) (her : (er != 0) = true) (h : Fails 17 (sv c p d n s l m k) er) (w : World) :
    Calls Try.prog 45 #[.agg (sv c p d n s l m k), .int .i64 dr] w fun e w' => e = .returned (.tuple #[.int .i64 0, .int .i64 0, .int .i64 er]) ∧ Below w.heap.size w w' := by
  go_enter Try.func45, Try.ntmps45
  go_wp2_with (go_at_call 17; refine (h _).mono ?_; rintro e w' ⟨rfl, rfl⟩)
  go_ret3
  exact ⟨rfl, by go_grown⟩
set_option maxHeartbeats 400000 in
theorem false_draws (c p d n s l m k dr : Int) (hc : c = 1 ∨ c = 2) (h : sensB p d n s l m k = true) (hd : dr < 1 ∨ 12 < dr) (w : World) :
    Calls Try.prog 44 #[.agg (sv c p d n s l m k), .int .i64 dr] w fun e w' => e = .returned (.tuple #[.int .i64 0, .int .i64 0, .int .i64 2]) ∧ Below w.heap.size w w' := by
  by_cases h1 : dr < 1
  · clear hd
    go_enter Try.func44, Try.ntmps44
    go_wp2_with (go_at_call 16; refine (sensor_ok1 _ _ _ _ _ _ _ _ hc h _).mono ?_; rintro e w' ⟨rfl, rfl⟩)
    go_ret3
    exact ⟨rfl, by go_grown⟩
  · have h2 : 12 < dr := by omega
    clear hd
    go_enter Try.func44, Try.ntmps44
    go_wp2_with (go_at_call 16; refine (sensor_ok1 _ _ _ _ _ _ _ _ hc h _).mono ?_; rintro e w' ⟨rfl, rfl⟩)
    go_ret3
    exact ⟨rfl, by go_grown⟩
set_option maxRecDepth 100000 in
set_option maxHeartbeats 400000 in
theorem rfalse_draws (c p d n s l m k dr : Int) (hc : c = 1 ∨ c = 2) (h : sensB p d n s l m k = true) (hd : dr < 1 ∨ 12 < dr) (w : World) :
    Calls Try.prog 45 #[.agg (sv c p d n s l m k), .int .i64 dr] w fun e w' => e = .returned (.tuple #[.int .i64 0, .int .i64 0, .int .i64 2]) ∧ Below w.heap.size w w' := by
  by_cases h1 : dr < 1
  · clear hd
    go_enter Try.func45, Try.ntmps45
    go_wp2_with (go_at_call 17; refine (rsensor_ok1 _ _ _ _ _ _ _ _ hc h _).mono ?_; rintro e w' ⟨rfl, rfl⟩)
    go_ret3
    exact ⟨rfl, by go_grown⟩
  · have h2 : 12 < dr := by omega
    clear hd
    go_enter Try.func45, Try.ntmps45
    go_wp2_with (go_at_call 17; refine (rsensor_ok1 _ _ _ _ _ _ _ _ hc h _).mono ?_; rintro e w' ⟨rfl, rfl⟩)
    go_ret3
    exact ⟨rfl, by go_grown⟩

/-- Both functions return the same three numbers. -/
def Both (c p d n s l m k dr x y z : Int) : Prop :=
  (∀ w : World, Calls Try.prog 44 #[.agg (sv c p d n s l m k), .int .i64 dr] w fun e w' => e = .returned (.tuple #[.int .i64 x, .int .i64 y, .int .i64 z]) ∧ Below w.heap.size w w') ∧
  ∀ w : World, Calls Try.prog 45 #[.agg (sv c p d n s l m k), .int .i64 dr] w fun e w' => e = .returned (.tuple #[.int .i64 x, .int .i64 y, .int .i64 z]) ∧ Below w.heap.size w w'
theorem both (c p d n s l m k dr : Int) : ∃ x y z, Both c p d n s l m k dr x y z := by
  by_cases hc : c = 1 ∨ c = 2
  · cases h : sensB p d n s l m k
    · exact ⟨0, 0, 2, fun w => false_err c p d n s l m k dr 2 (by decide) (fun w => sensor_range c p d n s l m k hc h w) w, fun w => rfalse_err c p d n s l m k dr 2 (by decide) (fun w => rsensor_range c p d n s l m k hc h w) w⟩
    · by_cases hd : dr < 1 ∨ 12 < dr
      · exact ⟨0, 0, 2, fun w => false_draws c p d n s l m k dr hc h hd w, fun w => rfalse_draws c p d n s l m k dr hc h hd w⟩
      · obtain ⟨D, rfl⟩ : ∃ D : Nat, dr = (D : Int) := ⟨dr.toNat, by omega⟩
        exact ⟨_, _, _, fun w => false_any c p d n s l m k D hc h (by omega) (by omega) w, fun w => rfalse_any c p d n s l m k D hc h (by omega) (by omega) w⟩
  · have h1 : (c != 1) = true := by rw [bne_iff_ne]; omega
    have h2 : (c != 2) = true := by rw [bne_iff_ne]; omega
    exact ⟨0, 0, 4, fun w => false_err c p d n s l m k dr 4 (by decide) (fun w => sensor_kind c p d n s l m k h1 h2 w) w, fun w => rfalse_err c p d n s l m k dr 4 (by decide) (fun w => rsensor_kind c p d n s l m k h1 h2 w) w⟩

set_option maxHeartbeats 400000 in
theorem walkFalse (c p d n s l m k : Int) (_hb : ∀ z ∈ [c, p, d, n, s, l, m, k], IntKind.i64.has z) (dr : Int) (_hd : IntKind.i64.has dr) (w : World) :
    Calls Try.prog 6 #[.agg ([c, p, d, n, s, l, m, k].map (Value.int .i64)).toArray, .int .i64 dr] w fun e w' => e = .returned (.bool true) ∧ Below w.heap.size w w' := by
  obtain ⟨x, y, z, hx, hy⟩ := both c p d n s l m k dr
  have HX : Aside (∀ w : World, Calls Try.prog 44 #[.agg (sv c p d n s l m k), .int .i64 dr] w fun e w' => e = .returned (.tuple #[.int .i64 x, .int .i64 y, .int .i64 z]) ∧ Below w.heap.size w w') := hx
  have HY : Aside (∀ w : World, Calls Try.prog 45 #[.agg (sv c p d n s l m k), .int .i64 dr] w fun e w' => e = .returned (.tuple #[.int .i64 x, .int .i64 y, .int .i64 z]) ∧ Below w.heap.size w w') := hy
  clear hx hy _hb _hd
  simp only [List.map_cons, List.map_nil]
  go_enter Try.func6, Try.ntmps6
  go_wp2_with (first
    | (go_at_call 44; refine (HX.out _).mono ?_; rintro e w1 ⟨rfl, hb1⟩; obtain ⟨hc1, -⟩ := bcell hb1)
    | (go_at_call 45; refine (HY.out _).mono ?_; rintro e w2 ⟨rfl, hb2⟩)
    | (go_at_call 11; refine (awake_any _).mono ?_; rintro e w3 ⟨rfl, hb3⟩))
  go_ret
  exact ⟨rfl, bel_trans (bel_trans (bel_trans (by go_grown) hb1) hb2) hb3⟩

set_option maxRecDepth 100000 in
theorem liftedKickFalse (os : Os) (started : os.Started) (H : Type) (enc : TypeId × Value → H) :
    ReturnsInHanded {} Try.checked os 6 .any (Rows.kickFalseSpec.pre6 enc Try.prog Try.f6 Rows.kickFalseRow.domain false) (Rows.kickFalseSpec.post enc Try.prog Try.f6 false true false false) := by
  refine returnsInHanded_of_change (C := Try.checked) own started (by kernel_rfl) Try.func6
    (ChangeSpec.witness6 (enc := enc) (C := Try.checked) false ⟨#[], #[.agg #[.int .i64 0, .int .i64 0, .int .i64 0, .int .i64 0, .int .i64 0, .int .i64 0, .int .i64 0, .int .i64 0], .int .i64 0], []⟩ 16 (by kernel_rfl) (by kernel_rfl) (by kernel_rfl) (by kernel_rfl)) ?_
  intro W base args ds gs before hval0 hW hcnd _
  have hval : ∀ (j : Nat) t v, Try.f6.params[j]? = some t → args[j]? = some v → Value.okWide Try.prog W .any base t v := hval0
  have hW' := hW
  obtain ⟨p, q, hA0, hV, rfl, hfz, hnd⟩ := hW
  have hA : DataW.TrodAll enc Try.prog W 0 (fun _ => true) true Try.f6.params.toList args.toList ds p := hA0
  rw [Try.params6] at hA hval
  obtain ⟨v0, vs0, d0, ds0, p0, q0, hargs, rfl, rfl, h0, r0⟩ := trodAll_cons hA
  obtain ⟨v1, vs1, d1, ds1, p1, q1, rfl, rfl, rfl, h1, r1⟩ := trodAll_cons r0
  obtain ⟨rfl, rfl, rfl⟩ := trodAll_nil r1
  obtain rfl : args = #[v0, v1] := by cases args; simp_all
  obtain ⟨rfl, rfl⟩ := trodVars_none hV
  have k0 := h0
  have lt0 : ∀ x ∈ p0, x.block < W.heap.size := by obtain ⟨m, hm⟩ := k0; exact DataW.trod_lt m _ _ _ hm
  obtain ⟨z0, rfl, l0, b0⟩ := agg_ints (ts := [3, 2, 2, 2, 2, 2, 2, 2]) Try.underlying29 (by kernel_rfl) (by kernel_rfl) (by kernel_rfl) (hval 0 _ v0 rfl rfl)
  obtain ⟨a0x0, a0x1, a0x2, a0x3, a0x4, a0x5, a0x6, a0x7, rfl⟩ := list8 l0
  have k1 := h1
  have lt1 : ∀ x ∈ p1, x.block < W.heap.size := by obtain ⟨m, hm⟩ := k1; exact DataW.trod_lt m _ _ _ hm
  obtain ⟨a1, rfl, b1⟩ := val_int (by kernel_rfl) (hval 1 _ v1 rfl rfl)
  clear hA0 hval0
  refine (walkFalse a0x0 a0x1 a0x2 a0x3 a0x4 a0x5 a0x6 a0x7 b0 a1 b1 W).mono fun e W' ⟨he, bel⟩ => ?_
  subst he
  exact ⟨_, rfl, _, _, _, [], _, [], hW', trodAll_mk1 (shut_bool Try.underlying4 _), (trodAll_cons_mk (Below.trod laidOut (by kernel_rfl) (of_decide_eq_true (by kernel_rfl)) k0 bel lt0) (trodAll_cons_mk (Below.trod laidOut (by kernel_rfl) (of_decide_eq_true (by kernel_rfl)) k1 bel lt1) trodAll_mk0)), rfl, bel.frame _, fun h => by cases h⟩

/-- KickFalse returns true for every input. -/
theorem kickFalse_holds : Rows.KickFalseSaid :=
  OpenClaim.holds_of_wide 6 Try.f6 rfl rfl rfl rfl rfl rfl rfl ⟨rfl, rfl, rfl, rfl, rfl⟩ rfl rfl rfl rfl rfl (by kernel_rfl) Try.func6 (by kernel_rfl)
    (of_decide_eq_true (by kernel_rfl)) (by unfold Func.isWrapper; first | (rw [if_pos (by decide +kernel)]; kernel_rfl) | (rw [if_neg (by decide +kernel)]; exact ⟨rfl, rfl⟩))
    (fun os started H enc _ => liftedKickFalse os started H enc)

end Go.Proofs.Ytdjmidoegidlbaa
