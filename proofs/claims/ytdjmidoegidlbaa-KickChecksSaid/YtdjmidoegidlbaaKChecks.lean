/- KickChecks returns true for every kick, set, sensor, list of sensors and numbers, and leaves them as they were. -/
import Derived.Test.YtdjmidoegidlbaaKq
import Derived.Test.YtdjmidoegidlbaaKu
import Derived.Test.YtdjmidoegidlbaaKg
import Derived.Test.YtdjmidoegidlbaaSl
import Derived.Deep.RegionHeld3
import Derived.Deep.DeepCutAuto
namespace Go.Proofs.Ytdjmidoegidlbaa
open Go.ChangeShapes Go.WideShapes Go.ChangeAt Go.RowKit

set_option maxRecDepth 100000 in
set_option maxHeartbeats 2000000 in
theorem checks_long (w : World) (kv0 : Array Value) (xv0 : Array Value) (sv0 : Array Value) (a : Option Addr) (len cap : Nat) (n e : Int) (hm : len ≤ 9223372036854775807) (hl : 6 < len) :
    Calls Try.prog 3 #[.agg kv0, .agg xv0, .agg sv0, .slice a len cap, .int .i64 n, .int .i64 e] w fun e w' => e = .returned (.bool true) ∧ Below w.heap.size w w' := by
  go_enter Try.func3, Try.ntmps3
  go_wp2_with (go_at_call 11; refine (awake_any _).mono ?_; rintro e w3 ⟨rfl, hb3⟩)
  go_ret
  exact ⟨rfl, bel_trans (by go_grown) hb3⟩

/-- The error of a kick. -/
def kickE (r g : Int) : Int := if kickB r g = true then 0 else 2
theorem kick_any (r g : Int) (w : World) :
    Calls Try.prog 12 #[.agg #[.int .i64 r, .int .i64 g]] w fun e w' => e = .returned (.int .i64 (kickE r g)) ∧ Below w.heap.size w w' := by
  unfold kickE
  cases h : kickB r g
  · refine (kick_no r g h w).mono ?_
    rintro e w' ⟨rfl, rfl⟩
    exact ⟨rfl, by go_grown⟩
  · refine (kick_ok r g h w).mono ?_
    rintro e w' ⟨rfl, rfl⟩
    exact ⟨rfl, by go_grown⟩
theorem rkick_any (r g : Int) (w : World) :
    Calls Try.prog 13 #[.agg #[.int .i64 r, .int .i64 g]] w fun e w' => e = .returned (.int .i64 (kickE r g)) ∧ Below w.heap.size w w' := by
  unfold kickE
  cases h : kickB r g
  · refine (rkick_no r g h w).mono ?_
    rintro e w' ⟨rfl, rfl⟩
    exact ⟨rfl, by go_grown⟩
  · refine (rkick_ok r g h w).mono ?_
    rintro e w' ⟨rfl, rfl⟩
    exact ⟨rfl, by go_grown⟩
/-- The error of a set of kicks. -/
def kicksE (a b c d : Int) : Int := if kicksB a b c d = true then 0 else 2
theorem kicks_any (a b c d : Int) (w : World) :
    Calls Try.prog 14 #[.agg (kv a b c d)] w fun e w' => e = .returned (.int .i64 (kicksE a b c d)) ∧ Below w.heap.size w w' := by
  unfold kicksE
  cases h : kicksB a b c d
  · exact kicks_no a b c d h w
  · exact kicks_ok a b c d h w
theorem rkicks_any (a b c d : Int) (w : World) :
    Calls Try.prog 15 #[.agg (kv a b c d)] w fun e w' => e = .returned (.int .i64 (kicksE a b c d)) ∧ Below w.heap.size w w' := by
  unfold kicksE
  cases h : kicksB a b c d
  · exact rkicks_no a b c d h w
  · exact rkicks_ok a b c d h w

theorem sensor_bel (c p d n s l m k : Int) (w : World) :
    Calls Try.prog 16 #[.agg (sv c p d n s l m k)] w fun e w' => e = .returned (.int .i64 (senE c p d n s l m k)) ∧ Below w.heap.size w w' := by
  refine (sensor_any c p d n s l m k w).mono ?_
  rintro e w' ⟨rfl, rfl⟩
  exact ⟨rfl, by go_grown⟩
theorem rsensor_bel (c p d n s l m k : Int) (w : World) :
    Calls Try.prog 17 #[.agg (sv c p d n s l m k)] w fun e w' => e = .returned (.int .i64 (senE c p d n s l m k)) ∧ Below w.heap.size w w' := by
  refine (rsensor_any c p d n s l m k w).mono ?_
  rintro e w' ⟨rfl, rfl⟩
  exact ⟨rfl, by go_grown⟩

/-- What the law's three structs hold, whatever is called. -/
def HeldC (w w' : World) (r g x0 x1 x2 x3 c p d ns s l m k : Int) : Prop := Below w.heap.size w w' ∧ w.heap.size + 2 < w'.heap.size ∧ w'.cell? ⟨w.heap.size, 0, none⟩ = some (.int .i64 r) ∧ w'.cell? ⟨w.heap.size, 1, none⟩ = some (.int .i64 g) ∧ w'.cell? ⟨w.heap.size + 1, 0, none⟩ = some (.int .i64 x0) ∧ w'.cell? ⟨w.heap.size + 1, 1, none⟩ = some (.int .i64 x1) ∧ w'.cell? ⟨w.heap.size + 1, 2, none⟩ = some (.int .i64 x2) ∧ w'.cell? ⟨w.heap.size + 1, 3, none⟩ = some (.int .i64 x3) ∧ w'.cell? ⟨w.heap.size + 2, 0, none⟩ = some (.int .i64 c) ∧ w'.cell? ⟨w.heap.size + 2, 1, none⟩ = some (.int .i64 p) ∧ w'.cell? ⟨w.heap.size + 2, 2, none⟩ = some (.int .i64 d) ∧ w'.cell? ⟨w.heap.size + 2, 3, none⟩ = some (.int .i64 ns) ∧ w'.cell? ⟨w.heap.size + 2, 4, none⟩ = some (.int .i64 s) ∧ w'.cell? ⟨w.heap.size + 2, 5, none⟩ = some (.int .i64 l) ∧ w'.cell? ⟨w.heap.size + 2, 6, none⟩ = some (.int .i64 m) ∧ w'.cell? ⟨w.heap.size + 2, 7, none⟩ = some (.int .i64 k)
theorem HeldC.next {w w1 w2 : World} {r g x0 x1 x2 x3 c p d ns s l m k : Int} (hb : Below w1.heap.size w1 w2) (h : HeldC w w1 r g x0 x1 x2 x3 c p d ns s l m k) : HeldC w w2 r g x0 x1 x2 x3 c p d ns s l m k := by
  obtain ⟨hb0, hs0, h0, h1, h2, h3, h4, h5, h6, h7, h8, h9, h10, h11, h12, h13⟩ := h
  have hc : ∀ b o, b < w1.heap.size → w2.cell? ⟨b, o, none⟩ = w1.cell? ⟨b, o, none⟩ := (bcell hb).1
  exact ⟨bel_trans hb0 hb, Nat.lt_of_lt_of_le hs0 hb.size, (hc _ _ (by omega)).trans h0, (hc _ _ (by omega)).trans h1, (hc _ _ (by omega)).trans h2, (hc _ _ (by omega)).trans h3, (hc _ _ (by omega)).trans h4, (hc _ _ (by omega)).trans h5, (hc _ _ (by omega)).trans h6, (hc _ _ (by omega)).trans h7, (hc _ _ (by omega)).trans h8, (hc _ _ (by omega)).trans h9, (hc _ _ (by omega)).trans h10, (hc _ _ (by omega)).trans h11, (hc _ _ (by omega)).trans h12, (hc _ _ (by omega)).trans h13⟩
theorem HeldC.drew {w w1 : World} {r g x0 x1 x2 x3 c p d ns s l m k : Int} (h : HeldC w w1 r g x0 x1 x2 x3 c p d ns s l m k) : HeldC w w1.drew r g x0 x1 x2 x3 c p d ns s l m k := by
  obtain ⟨hb0, hs0, h0, h1, h2, h3, h4, h5, h6, h7, h8, h9, h10, h11, h12, h13⟩ := h
  exact ⟨hb0.drew, hs0, h0, h1, h2, h3, h4, h5, h6, h7, h8, h9, h10, h11, h12, h13⟩
theorem HeldC.bel {w w1 : World} {r g x0 x1 x2 x3 c p d ns s l m k : Int} (h : HeldC w w1 r g x0 x1 x2 x3 c p d ns s l m k) : Below w.heap.size w w1 := h.1
theorem HeldC.first {w : World} {r g x0 x1 x2 x3 c p d ns s l m k : Int} {t1 t2 t3 : TypeId} : HeldC w (((w.alloc (.cells #[.int .i64 r, .int .i64 g] t1)).alloc (.cells (kv x0 x1 x2 x3) t2)).alloc (.cells (sv c p d ns s l m k) t3)).drew r g x0 x1 x2 x3 c p d ns s l m k := by
  refine ⟨by go_grown, by simp [go_sem], ?_⟩
  simp [go_sem, World.cell?_alloc_past]

set_option maxRecDepth 100000 in
set_option maxHeartbeats 4000000 in
theorem checks_short (w : World) (r g x0 x1 x2 x3 c p d ns s l m k : Int) (a : Option Addr) (len cap : Nat) (S : Nat → Nat → Int) (n e : Int) (h : IsSens w a len cap S) (hl : len ≤ 6) :
    Calls Try.prog 3 #[.agg #[.int .i64 r, .int .i64 g], .agg (kv x0 x1 x2 x3), .agg (sv c p d ns s l m k), .slice a len cap, .int .i64 n, .int .i64 e] w fun e w' => e = .returned (.bool true) ∧ Below w.heap.size w w' := by
  have hsz : len ≤ 9223372036854775807 := h.1
  have HS : Aside (IsSens w a len cap S) := h
  clear h
  go_enter Try.func3, Try.ntmps3
  go_wp2_with fail
  go_region_held3 (fun w' => Below w.heap.size w w' ∧ w.heap.size + 2 < w'.heap.size ∧ w'.cell? ⟨w.heap.size, 0, none⟩ = some (.int .i64 r) ∧ w'.cell? ⟨w.heap.size, 1, none⟩ = some (.int .i64 g) ∧ w'.cell? ⟨w.heap.size + 1, 0, none⟩ = some (.int .i64 x0) ∧ w'.cell? ⟨w.heap.size + 1, 1, none⟩ = some (.int .i64 x1) ∧ w'.cell? ⟨w.heap.size + 1, 2, none⟩ = some (.int .i64 x2) ∧ w'.cell? ⟨w.heap.size + 1, 3, none⟩ = some (.int .i64 x3) ∧ w'.cell? ⟨w.heap.size + 2, 0, none⟩ = some (.int .i64 c) ∧ w'.cell? ⟨w.heap.size + 2, 1, none⟩ = some (.int .i64 p) ∧ w'.cell? ⟨w.heap.size + 2, 2, none⟩ = some (.int .i64 d) ∧ w'.cell? ⟨w.heap.size + 2, 3, none⟩ = some (.int .i64 ns) ∧ w'.cell? ⟨w.heap.size + 2, 4, none⟩ = some (.int .i64 s) ∧ w'.cell? ⟨w.heap.size + 2, 5, none⟩ = some (.int .i64 l) ∧ w'.cell? ⟨w.heap.size + 2, 6, none⟩ = some (.int .i64 m) ∧ w'.cell? ⟨w.heap.size + 2, 7, none⟩ = some (.int .i64 k))
    (first
      | exact HeldC.first
      | (refine HeldC.next (by assumption) ?_; assumption)
      | (refine HeldC.drew ?_; assumption))
    (first
      | (go_at_call 12; refine (kick_any r g _).mono ?_; rintro e1 w1 ⟨rfl, hb1⟩)
      | (go_at_call 13; refine (rkick_any r g _).mono ?_; rintro e1 w1 ⟨rfl, hb1⟩)
      | (go_at_call 14; refine (kicks_any x0 x1 x2 x3 _).mono ?_; rintro e1 w1 ⟨rfl, hb1⟩)
      | (go_at_call 15; refine (rkicks_any x0 x1 x2 x3 _).mono ?_; rintro e1 w1 ⟨rfl, hb1⟩)
      | (go_at_call 16; refine (sensor_bel c p d ns s l m k _).mono ?_; rintro e1 w1 ⟨rfl, hb1⟩)
      | (go_at_call 17; refine (rsensor_bel c p d ns s l m k _).mono ?_; rintro e1 w1 ⟨rfl, hb1⟩)
      | (go_at_call 18; refine (sensors_any a len cap S _ (HS.out.kept (HeldC.bel (by assumption)))).mono ?_; rintro e1 w1 ⟨rfl, hb1⟩)
      | (go_at_call 19; refine (rsensors_any a len cap S _ (HS.out.kept (HeldC.bel (by assumption)))).mono ?_; rintro e1 w1 ⟨rfl, hb1⟩))
  all_goals go_wp2_with fail
  all_goals go_region_held3 (fun w' => Below w.heap.size w w' ∧ w.heap.size + 2 < w'.heap.size ∧ w'.cell? ⟨w.heap.size, 0, none⟩ = some (.int .i64 r) ∧ w'.cell? ⟨w.heap.size, 1, none⟩ = some (.int .i64 g) ∧ w'.cell? ⟨w.heap.size + 1, 0, none⟩ = some (.int .i64 x0) ∧ w'.cell? ⟨w.heap.size + 1, 1, none⟩ = some (.int .i64 x1) ∧ w'.cell? ⟨w.heap.size + 1, 2, none⟩ = some (.int .i64 x2) ∧ w'.cell? ⟨w.heap.size + 1, 3, none⟩ = some (.int .i64 x3) ∧ w'.cell? ⟨w.heap.size + 2, 0, none⟩ = some (.int .i64 c) ∧ w'.cell? ⟨w.heap.size + 2, 1, none⟩ = some (.int .i64 p) ∧ w'.cell? ⟨w.heap.size + 2, 2, none⟩ = some (.int .i64 d) ∧ w'.cell? ⟨w.heap.size + 2, 3, none⟩ = some (.int .i64 ns) ∧ w'.cell? ⟨w.heap.size + 2, 4, none⟩ = some (.int .i64 s) ∧ w'.cell? ⟨w.heap.size + 2, 5, none⟩ = some (.int .i64 l) ∧ w'.cell? ⟨w.heap.size + 2, 6, none⟩ = some (.int .i64 m) ∧ w'.cell? ⟨w.heap.size + 2, 7, none⟩ = some (.int .i64 k))
    (first
      | (refine HeldC.next (by assumption) ?_; assumption)
      | (refine HeldC.drew ?_; assumption))
    (first
      | (go_at_call 20; refine (flow_all r g n _).mono ?_; rintro e2 w2 ⟨rfl, hb2⟩)
      | (go_at_call 21; refine (rflow_all r g n _).mono ?_; rintro e2 w2 ⟨rfl, hb2⟩)
      | (go_at_call 22; refine (gain_all r g n _).mono ?_; rintro e2 w2 ⟨rfl, hb2⟩)
      | (go_at_call 23; refine (rgain_all r g n _).mono ?_; rintro e2 w2 ⟨rfl, hb2⟩)
      | (go_at_call 24; refine (value_all c p d ns s l m k r g n e _).mono ?_; rintro e2 w2 ⟨rfl, hb2⟩)
      | (go_at_call 25; refine (rvalue_all c p d ns s l m k r g n e _).mono ?_; rintro e2 w2 ⟨rfl, hb2⟩)
      | (go_at_call 11; refine (awake_any _).mono ?_; rintro e2 w2 ⟨rfl, hb2⟩))
  all_goals go_wp2_with fail
  all_goals go_ret
  all_goals exact ⟨rfl, HeldC.bel (by assumption)⟩

theorem walkChecks (w : World) (r g : Int) (_hb : ∀ z ∈ [r, g], IntKind.i64.has z) (x0 x1 x2 x3 : Int) (_hx : ∀ z ∈ [x0, x1, x2, x3], IntKind.i64.has z) (c p d ns s l m k : Int) (_hs : ∀ z ∈ [c, p, d, ns, s, l, m, k], IntKind.i64.has z)
    (a : Option Addr) (len cap : Nat) (S : Nat → Nat → Int) (h : IsRows 8 w a len cap S) (_hS : ∀ i j, i < len → j < 8 → IntKind.i64.has (S i j)) (n : Int) (_hn : IntKind.i64.has n) (e : Int) (_he : IntKind.i64.has e) :
    Calls Try.prog 3 #[.agg ([r, g].map (Value.int .i64)).toArray, .agg ([x0, x1, x2, x3].map (Value.int .i64)).toArray, .agg ([c, p, d, ns, s, l, m, k].map (Value.int .i64)).toArray, .slice a len cap, .int .i64 n, .int .i64 e] w fun e w' => e = .returned (.bool true) ∧ Below w.heap.size w w' := by
  by_cases hl : len ≤ 6
  · exact checks_short w r g x0 x1 x2 x3 c p d ns s l m k a len cap S n e h.sens hl
  · exact checks_long w _ _ _ a len cap n e h.1 (by omega)

set_option maxRecDepth 100000 in
theorem liftedKickChecks (os : Os) (started : os.Started) (H : Type) (enc : TypeId × Value → H) :
    ReturnsInHanded {} Try.checked os 3 .any (Rows.kickChecksSpec.pre6 enc Try.prog Try.f3 Rows.kickChecksRow.domain false) (Rows.kickChecksSpec.post enc Try.prog Try.f3 false true false false) := by
  refine returnsInHanded_of_change (C := Try.checked) own started (by kernel_rfl) Try.func3
    (ChangeSpec.witness6 (enc := enc) (C := Try.checked) false ⟨#[], #[.agg #[.int .i64 0, .int .i64 0], .agg #[.int .i64 0, .int .i64 0, .int .i64 0, .int .i64 0], .agg #[.int .i64 0, .int .i64 0, .int .i64 0, .int .i64 0, .int .i64 0, .int .i64 0, .int .i64 0, .int .i64 0], .slice none 0 0, .int .i64 0, .int .i64 0], []⟩ 16 (by kernel_rfl) (by kernel_rfl) (by kernel_rfl) (by kernel_rfl)) ?_
  intro W base args ds gs before hval0 hW hcnd _
  have hval : ∀ (j : Nat) t v, Try.f3.params[j]? = some t → args[j]? = some v → Value.okWide Try.prog W .any base t v := hval0
  have hW' := hW
  obtain ⟨p, q, hA0, hV, rfl, hfz, hnd⟩ := hW
  have hA : DataW.TrodAll enc Try.prog W 0 (fun _ => true) true Try.f3.params.toList args.toList ds p := hA0
  rw [Try.params3] at hA hval
  obtain ⟨v0, vs0, d0, ds0, p0, q0, hargs, rfl, rfl, h0, r0⟩ := trodAll_cons hA
  obtain ⟨v1, vs1, d1, ds1, p1, q1, rfl, rfl, rfl, h1, r1⟩ := trodAll_cons r0
  obtain ⟨v2, vs2, d2, ds2, p2, q2, rfl, rfl, rfl, h2, r2⟩ := trodAll_cons r1
  obtain ⟨v3, vs3, d3, ds3, p3, q3, rfl, rfl, rfl, h3, r3⟩ := trodAll_cons r2
  obtain ⟨v4, vs4, d4, ds4, p4, q4, rfl, rfl, rfl, h4, r4⟩ := trodAll_cons r3
  obtain ⟨v5, vs5, d5, ds5, p5, q5, rfl, rfl, rfl, h5, r5⟩ := trodAll_cons r4
  obtain ⟨rfl, rfl, rfl⟩ := trodAll_nil r5
  obtain rfl : args = #[v0, v1, v2, v3, v4, v5] := by cases args; simp_all
  obtain ⟨rfl, rfl⟩ := trodVars_none hV
  have k0 := h0
  have lt0 : ∀ x ∈ p0, x.block < W.heap.size := by obtain ⟨m, hm⟩ := k0; exact DataW.trod_lt m _ _ _ hm
  obtain ⟨z0, rfl, l0, b0⟩ := agg_ints (ts := [2, 2]) Try.underlying23 (by kernel_rfl) (by kernel_rfl) (by kernel_rfl) (hval 0 _ v0 rfl rfl)
  obtain ⟨a0x0, a0x1, rfl⟩ := list2 l0
  have k1 := h1
  have lt1 : ∀ x ∈ p1, x.block < W.heap.size := by obtain ⟨m, hm⟩ := k1; exact DataW.trod_lt m _ _ _ hm
  obtain ⟨z1, rfl, l1, b1⟩ := agg_ints (ts := [2, 2, 2, 2]) Try.underlying27 (by kernel_rfl) (by kernel_rfl) (by kernel_rfl) (hval 1 _ v1 rfl rfl)
  obtain ⟨a1x0, a1x1, a1x2, a1x3, rfl⟩ := list4 l1
  have k2 := h2
  have lt2 : ∀ x ∈ p2, x.block < W.heap.size := by obtain ⟨m, hm⟩ := k2; exact DataW.trod_lt m _ _ _ hm
  obtain ⟨z2, rfl, l2, b2⟩ := agg_ints (ts := [3, 2, 2, 2, 2, 2, 2, 2]) Try.underlying29 (by kernel_rfl) (by kernel_rfl) (by kernel_rfl) (hval 2 _ v2 rfl rfl)
  obtain ⟨a2x0, a2x1, a2x2, a2x3, a2x4, a2x5, a2x6, a2x7, rfl⟩ := list8 l2
  have k3 := h3
  have lt3 : ∀ x ∈ p3, x.block < W.heap.size := by obtain ⟨m, hm⟩ := k3; exact DataW.trod_lt m _ _ _ hm
  obtain ⟨a3, len3, cap3, z3, rfl, w3, b3⟩ := val_rows Try.underlying30 Try.underlying29 (by kernel_rfl) (by kernel_rfl) (by kernel_rfl) (by decide) (hval 3 _ v3 rfl rfl) h3
  have k4 := h4
  have lt4 : ∀ x ∈ p4, x.block < W.heap.size := by obtain ⟨m, hm⟩ := k4; exact DataW.trod_lt m _ _ _ hm
  obtain ⟨a4, rfl, b4⟩ := val_int (by kernel_rfl) (hval 4 _ v4 rfl rfl)
  have k5 := h5
  have lt5 : ∀ x ∈ p5, x.block < W.heap.size := by obtain ⟨m, hm⟩ := k5; exact DataW.trod_lt m _ _ _ hm
  obtain ⟨a5, rfl, b5⟩ := val_int (by kernel_rfl) (hval 5 _ v5 rfl rfl)
  clear hA0 hval0
  refine (walkChecks W a0x0 a0x1 b0 a1x0 a1x1 a1x2 a1x3 b1 a2x0 a2x1 a2x2 a2x3 a2x4 a2x5 a2x6 a2x7 b2 a3 len3 cap3 z3 w3 b3 a4 b4 a5 b5).mono fun e W' ⟨he, bel⟩ => ?_
  subst he
  exact ⟨_, rfl, _, _, _, [], _, [], hW', trodAll_mk1 (shut_bool Try.underlying4 _), (trodAll_cons_mk (Below.trod laidOut (by kernel_rfl) (of_decide_eq_true (by kernel_rfl)) k0 bel lt0) (trodAll_cons_mk (Below.trod laidOut (by kernel_rfl) (of_decide_eq_true (by kernel_rfl)) k1 bel lt1) (trodAll_cons_mk (Below.trod laidOut (by kernel_rfl) (of_decide_eq_true (by kernel_rfl)) k2 bel lt2) (trodAll_cons_mk (Below.trod laidOut (by kernel_rfl) (of_decide_eq_true (by kernel_rfl)) k3 bel lt3) (trodAll_cons_mk (Below.trod laidOut (by kernel_rfl) (of_decide_eq_true (by kernel_rfl)) k4 bel lt4) (trodAll_cons_mk (Below.trod laidOut (by kernel_rfl) (of_decide_eq_true (by kernel_rfl)) k5 bel lt5) trodAll_mk0)))))), rfl, bel.frame _, fun h => by cases h⟩

/-- KickChecks returns true for every input. -/
theorem kickChecks_holds : Rows.KickChecksSaid :=
  OpenClaim.holds_of_wide 3 Try.f3 rfl rfl rfl rfl rfl rfl rfl ⟨rfl, rfl, rfl, rfl, rfl⟩ rfl rfl rfl rfl rfl (by kernel_rfl) Try.func3 (by kernel_rfl)
    (of_decide_eq_true (by kernel_rfl)) (by unfold Func.isWrapper; first | (rw [if_pos (by decide +kernel)]; kernel_rfl) | (rw [if_neg (by decide +kernel)]; exact ⟨rfl, rfl⟩))
    (fun os started H enc _ => liftedKickChecks os started H enc)


end Go.Proofs.Ytdjmidoegidlbaa
