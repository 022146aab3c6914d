/- A pair of functions of layer 6 that return the same: what a sensor measures. -/
import Derived.Test.YtngcfohmlppghaaKs
import Derived.Test.YtngcfohmlppghaaKt
import Derived.Test.YtngcfohmlppghaaKf
import Derived.Deep.RegionHeld3
import Derived.Deep.DeepCutAuto
namespace Go.Proofs.Ytngcfohmlppghaa
open Go.RowKit

/-- What a sensor measures t ticks after the beginning of a kick, with an error. -/
def valE (c p d n s l m k r g t e : Int) : Int := if (c = 1 ∨ c = 2) ∧ sensB p d n s l m k = true ∧ kickB r g = true ∧ wi e (-n) n = true ∧ t ≤ 20000 then sayV c r g t + e * s else 0

set_option maxHeartbeats 400000 in
theorem channel_ex (c p d n s l m k r g : Int) (w : World) :
    Calls Try.prog 78 #[.agg (sv c p d n s l m k), .agg #[.int .i64 r, .int .i64 g]] w fun e w' =>
      e = .returned (.func (.func (chF c)) #[.agg #[.int .i64 r, .int .i64 g]] #[]) ∧ ((w.alloc (.cells (sv c p d n s l m k) 32)).alloc (.cells #[.int .i64 r, .int .i64 g] 29)).alloc (.cells #[.int .i64 r, .int .i64 g] 115) = w' := by
  have hmf : ∀ (fn : Fn) (first cap : Array Value) (w : World), (Instr.makeFunc fn first cap).run Try.prog w = .ok (.func fn first cap) w := fun _ _ _ _ => rfl
  by_cases h : c = 2
  · subst h
    go_enter Try.func78, Try.ntmps78
    go_wp2
    go_ret
    exact ⟨by simp [chF], rfl⟩
  · have h' : (c == 2) = false := by simp [h]
    have e0 : chF c = 75 := by simp [chF, h]
    rw [e0]
    clear h e0
    go_enter Try.func78, Try.ntmps78
    go_wp2
    go_ret
    exact ⟨rfl, rfl⟩

set_option maxHeartbeats 400000 in
theorem value_no (c p d n s l m k r g t e : Int) (h : valE c p d n s l m k r g t e = 0) (hno : ¬ ((c = 1 ∨ c = 2) ∧ sensB p d n s l m k = true ∧ kickB r g = true ∧ wi e (-n) n = true ∧ t ≤ 20000)) (w : World) :
    Calls Try.prog 42 #[.agg (sv c p d n s l m k), .agg #[.int .i64 r, .int .i64 g], .int .i64 t, .int .i64 e] w fun e' w' => e' = .returned (.int .i64 (valE c p d n s l m k r g t e)) ∧ Below w.heap.size w w' := by
  rw [h]; clear h
  cases hs : ((senE c p d n s l m k) != 0)
  case true =>
    clear hno
    go_enter Try.func42, Try.ntmps42
    go_wp2_with (go_at_call 57; refine (sensor_any _ _ _ _ _ _ _ _ _).mono ?_; rintro e w' ⟨rfl, rfl⟩)
    go_ret
    exact ⟨rfl, by go_grown⟩
  have hs0 : senE c p d n s l m k = 0 := by simpa using hs
  have hc : (c = 1 ∨ c = 2) ∧ sensB p d n s l m k = true := by
    unfold senE at hs0
    split at hs0
    · rename_i hc
      split at hs0
      · rename_i hb; exact ⟨hc, hb⟩
      · omega
    · omega
  obtain ⟨⟨p0, p1⟩, ⟨d0, d1⟩, ⟨n0, n1⟩, -, -, -, -, -, -⟩ := fit_of (c := c) (r := 0) (g := 0) hc.2 (by decide)
  have HS : Aside (senE c p d n s l m k = 0) := hs0
  cases hk : kickB r g
  · clear hno hs hs0
    go_enter Try.func42, Try.ntmps42
    go_wp2_with (first
      | (go_at_call 57; refine (sensor_any _ _ _ _ _ _ _ _ _).mono ?_; rw [HS.out]; rintro e w' ⟨rfl, rfl⟩)
      | (go_at_call 58; refine (kick_no r g hk _).mono ?_; rintro e w' ⟨rfl, rfl⟩))
    go_ret
    exact ⟨rfl, by go_grown⟩
  cases he : wi e (-n) n
  · clear hno hs hs0
    go_enter Try.func42, Try.ntmps42
    go_wp2_with (first
      | (go_at_call 57; refine (sensor_any _ _ _ _ _ _ _ _ _).mono ?_; rw [HS.out]; rintro e w' ⟨rfl, rfl⟩)
      | (go_at_call 58; refine (kick_ok r g hk _).mono ?_; rintro e w' ⟨rfl, rfl⟩)
      | (go_at_call 59; refine (within_any e (-n) n _).mono ?_; rw [he]; rintro e w' ⟨rfl, rfl⟩))
    go_ret
    exact ⟨rfl, by go_grown⟩
  have ht : 20000 < t := by
    by_cases h : t ≤ 20000
    · exact absurd ⟨hc.1, hc.2, hk, he, h⟩ hno
    · omega
  clear hno hs hs0
  go_enter Try.func42, Try.ntmps42
  go_wp2_with (first
    | (go_at_call 57; refine (sensor_any _ _ _ _ _ _ _ _ _).mono ?_; rw [HS.out]; rintro e w' ⟨rfl, rfl⟩)
    | (go_at_call 58; refine (kick_ok r g hk _).mono ?_; rintro e w' ⟨rfl, rfl⟩)
    | (go_at_call 59; refine (within_any e (-n) n _).mono ?_; rw [he]; rintro e w' ⟨rfl, rfl⟩))
  go_ret
  exact ⟨rfl, by go_grown⟩
set_option maxHeartbeats 400000 in
theorem rvalue_no (c p d n s l m k r g t e : Int) (h : valE c p d n s l m k r g t e = 0) (hno : ¬ ((c = 1 ∨ c = 2) ∧ sensB p d n s l m k = true ∧ kickB r g = true ∧ wi e (-n) n = true ∧ t ≤ 20000)) (w : World) :
    Calls Try.prog 84 #[.agg (sv c p d n s l m k), .agg #[.int .i64 r, .int .i64 g], .int .i64 t, .int .i64 e] w fun e' w' => e' = .returned (.int .i64 (valE c p d n s l m k r g t e)) ∧ Below w.heap.size w w' := by
  rw [h]; clear h
  cases hs : ((senE c p d n s l m k) != 0)
  case true =>
    clear hno
    go_enter Try.func84, Try.ntmps84
    go_wp2_with (go_at_call 61; refine (rsensor_any _ _ _ _ _ _ _ _ _).mono ?_; rintro e w' ⟨rfl, rfl⟩)
    go_ret
    exact ⟨rfl, by go_grown⟩
  have hs0 : senE c p d n s l m k = 0 := by simpa using hs
  have hc : (c = 1 ∨ c = 2) ∧ sensB p d n s l m k = true := by
    unfold senE at hs0
    split at hs0
    · rename_i hc
      split at hs0
      · rename_i hb; exact ⟨hc, hb⟩
      · omega
    · omega
  obtain ⟨⟨p0, p1⟩, ⟨d0, d1⟩, ⟨n0, n1⟩, -, -, -, -, -, -⟩ := fit_of (c := c) (r := 0) (g := 0) hc.2 (by decide)
  have HS : Aside (senE c p d n s l m k = 0) := hs0
  cases hk : kickB r g
  · clear hno hs hs0
    go_enter Try.func84, Try.ntmps84
    go_wp2_with (first
      | (go_at_call 61; refine (rsensor_any _ _ _ _ _ _ _ _ _).mono ?_; rw [HS.out]; rintro e w' ⟨rfl, rfl⟩)
      | (go_at_call 62; refine (rkick_no r g hk _).mono ?_; rintro e w' ⟨rfl, rfl⟩))
    go_ret
    exact ⟨rfl, by go_grown⟩
  cases he : wi e (-n) n
  · clear hno hs hs0
    go_enter Try.func84, Try.ntmps84
    go_wp2_with (first
      | (go_at_call 61; refine (rsensor_any _ _ _ _ _ _ _ _ _).mono ?_; rw [HS.out]; rintro e w' ⟨rfl, rfl⟩)
      | (go_at_call 62; refine (rkick_ok r g hk _).mono ?_; rintro e w' ⟨rfl, rfl⟩)
      | (go_at_call 63; refine (between_any e (-n) n _).mono ?_; rw [he]; rintro e w' ⟨rfl, rfl⟩))
    go_ret
    exact ⟨rfl, by go_grown⟩
  have ht : 20000 < t := by
    by_cases h : t ≤ 20000
    · exact absurd ⟨hc.1, hc.2, hk, he, h⟩ hno
    · omega
  clear hno hs hs0
  go_enter Try.func84, Try.ntmps84
  go_wp2_with (first
    | (go_at_call 61; refine (rsensor_any _ _ _ _ _ _ _ _ _).mono ?_; rw [HS.out]; rintro e w' ⟨rfl, rfl⟩)
    | (go_at_call 62; refine (rkick_ok r g hk _).mono ?_; rintro e w' ⟨rfl, rfl⟩)
    | (go_at_call 63; refine (between_any e (-n) n _).mono ?_; rw [he]; rintro e w' ⟨rfl, rfl⟩))
  go_ret
  exact ⟨rfl, by go_grown⟩
set_option maxRecDepth 100000 in
set_option maxHeartbeats 2000000 in
theorem value_ok (c p d n s l m k r g t e : Int) (hc : c = 1 ∨ c = 2) (hb : sensB p d n s l m k = true) (hk : kickB r g = true) (he : wi e (-n) n = true) (ht : t ≤ 20000) (w : World) :
    Calls Try.prog 42 #[.agg (sv c p d n s l m k), .agg #[.int .i64 r, .int .i64 g], .int .i64 t, .int .i64 e] w fun e' w' => e' = .returned (.int .i64 (sayV c r g t + e * s)) ∧ Below w.heap.size w w' := by
  obtain ⟨⟨p0, p1⟩, ⟨d0, d1⟩, ⟨n0, n1⟩, ⟨s0, s1⟩, -, -, -, hr, hg⟩ := fit_of (c := c) hb hk
  obtain ⟨v0, v1⟩ := say_bd (c := c) hr hg (show t ≤ 20000 by omega)
  have he' : -n ≤ e ∧ e ≤ n := by simpa [wi] using he
  obtain ⟨m0, m1⟩ := mul_abs (show (-15 : Int) ≤ e by omega) (show e ≤ 15 by omega) (show (0 : Int) ≤ s by omega) s1
  have i1 : IntKind.i64.wrap (e * s) = e * s := IntWalk.i64_in _ (by omega)
  have i2 : IntKind.i64.wrap (sayV c r g t + e * s) = sayV c r g t + e * s := IntWalk.i64_in _ (by omega)
  have hcf := chF_enter c
  go_enter Try.func42, Try.ntmps42
  go_wp2_with (first
    | (go_at_call 57; refine (sensor_ok1 _ _ _ _ _ _ _ _ hc hb _).mono ?_; rintro e w' ⟨rfl, rfl⟩)
    | (go_at_call 58; refine (kick_ok r g hk _).mono ?_; rintro e w' ⟨rfl, rfl⟩)
    | (go_at_call 59; refine (within_any e (-n) n _).mono ?_; rw [he]; rintro e w' ⟨rfl, rfl⟩))
  go_region_held3 (fun w' => w'.cell? ⟨w.heap.size, 0, none⟩ = some (.int .i64 c) ∧ w'.cell? ⟨w.heap.size, 1, none⟩ = some (.int .i64 p) ∧ w'.cell? ⟨w.heap.size, 2, none⟩ = some (.int .i64 d) ∧ w'.cell? ⟨w.heap.size, 3, none⟩ = some (.int .i64 n) ∧ w'.cell? ⟨w.heap.size, 4, none⟩ = some (.int .i64 s) ∧ w'.cell? ⟨w.heap.size, 5, none⟩ = some (.int .i64 l) ∧ w'.cell? ⟨w.heap.size, 6, none⟩ = some (.int .i64 m) ∧ w'.cell? ⟨w.heap.size, 7, none⟩ = some (.int .i64 k) ∧ w'.cell? ⟨w.heap.size + 1, 0, none⟩ = some (.int .i64 r) ∧ w'.cell? ⟨w.heap.size + 1, 1, none⟩ = some (.int .i64 g)) (simp [go_sem, World.cell?_alloc_past])
    (first
      | (go_at_call 78; refine (channel_ex c p d n s l m k r g _).mono ?_; rintro e w' ⟨rfl, rfl⟩)
      | (refine (says_any c r g t hr hg ht _).mono ?_; rintro e w' ⟨rfl, rfl⟩))
  clear i1 i2 hcf
  go_wp2
  go_ret
  refine ⟨rfl, ?_⟩
  go_grown

set_option maxHeartbeats 400000 in
theorem rsays_any (c p d n s l m k r g t : Int) (hc : c = 1 ∨ c = 2) (hk : kickB r g = true) (ht : t ≤ 20000) (w : World) :
    Calls Try.prog 89 #[.agg (sv c p d n s l m k), .agg #[.int .i64 r, .int .i64 g], .int .i64 t] w fun e' w' => e' = .returned (.int .i64 (sayV c r g t)) ∧ Below w.heap.size w w' := by
  rcases hc with rfl | rfl
  · have e0 : gainE r g t = sayV 1 r g t := by simp [gainE, sayV, hk, ht]
    have HE : Aside (gainE r g t = sayV 1 r g t) := e0
    clear e0
    go_enter Try.func89, Try.ntmps89
    go_wp2_with (go_at_call 76; refine (rgain_all r g t _).mono ?_; rw [HE.out]; rintro e w1 ⟨rfl, hb1⟩)
    go_ret
    exact ⟨rfl, bel_trans (by go_grown) hb1⟩
  · have e0 : flowE r g t = sayV 2 r g t := by simp [flowE, sayV, hk, ht]
    have HE : Aside (flowE r g t = sayV 2 r g t) := e0
    clear e0
    go_enter Try.func89, Try.ntmps89
    go_wp2_with (go_at_call 102; refine (rflow_all r g t _).mono ?_; rw [HE.out]; rintro e w1 ⟨rfl, hb1⟩)
    go_ret
    exact ⟨rfl, bel_trans (by go_grown) hb1⟩
set_option maxRecDepth 100000 in
set_option maxHeartbeats 2000000 in
theorem rvalue_ok (c p d n s l m k r g t e : Int) (hc : c = 1 ∨ c = 2) (hb : sensB p d n s l m k = true) (hk : kickB r g = true) (he : wi e (-n) n = true) (ht : t ≤ 20000) (w : World) :
    Calls Try.prog 84 #[.agg (sv c p d n s l m k), .agg #[.int .i64 r, .int .i64 g], .int .i64 t, .int .i64 e] w fun e' w' => e' = .returned (.int .i64 (sayV c r g t + e * s)) ∧ Below w.heap.size w w' := by
  obtain ⟨⟨p0, p1⟩, ⟨d0, d1⟩, ⟨n0, n1⟩, ⟨s0, s1⟩, -, -, -, hr, hg⟩ := fit_of (c := c) hb hk
  obtain ⟨v0, v1⟩ := say_bd (c := c) hr hg (show t ≤ 20000 by omega)
  have he' : -n ≤ e ∧ e ≤ n := by simpa [wi] using he
  obtain ⟨m0, m1⟩ := mul_abs (show (-15 : Int) ≤ e by omega) (show e ≤ 15 by omega) (show (0 : Int) ≤ s by omega) s1
  have i1 : IntKind.i64.wrap (e * s) = e * s := IntWalk.i64_in _ (by omega)
  have i2 : IntKind.i64.wrap (sayV c r g t + e * s) = sayV c r g t + e * s := IntWalk.i64_in _ (by omega)
  go_enter Try.func84, Try.ntmps84
  go_wp2_with (first
    | (go_at_call 61; refine (rsensor_ok1 _ _ _ _ _ _ _ _ hc hb _).mono ?_; rintro e w' ⟨rfl, rfl⟩)
    | (go_at_call 62; refine (rkick_ok r g hk _).mono ?_; rintro e w' ⟨rfl, rfl⟩)
    | (go_at_call 63; refine (between_any e (-n) n _).mono ?_; rw [he]; rintro e w' ⟨rfl, rfl⟩))
  go_region_held3 (fun w' => w'.cell? ⟨w.heap.size, 0, none⟩ = some (.int .i64 c) ∧ w'.cell? ⟨w.heap.size, 1, none⟩ = some (.int .i64 p) ∧ w'.cell? ⟨w.heap.size, 2, none⟩ = some (.int .i64 d) ∧ w'.cell? ⟨w.heap.size, 3, none⟩ = some (.int .i64 n) ∧ w'.cell? ⟨w.heap.size, 4, none⟩ = some (.int .i64 s) ∧ w'.cell? ⟨w.heap.size, 5, none⟩ = some (.int .i64 l) ∧ w'.cell? ⟨w.heap.size, 6, none⟩ = some (.int .i64 m) ∧ w'.cell? ⟨w.heap.size, 7, none⟩ = some (.int .i64 k) ∧ w'.cell? ⟨w.heap.size + 1, 0, none⟩ = some (.int .i64 r) ∧ w'.cell? ⟨w.heap.size + 1, 1, none⟩ = some (.int .i64 g)) (first | (simp [go_sem, World.cell?_alloc_past]; done) | (simp [*, go_sem]; done))
    ((go_at_call 89; refine (rsays_any c p d n s l m k r g t hc hk ht _).mono ?_; rintro e w' ⟨rfl, hb1⟩; obtain ⟨hcx, -⟩ := bcell hb1))
  clear i1 i2
  go_wp2
  go_ret
  exact ⟨rfl, bel_trans (by go_grown) hb1⟩
theorem value_all (c p d n s l m k r g t e : Int) (w : World) :
    Calls Try.prog 42 #[.agg (sv c p d n s l m k), .agg #[.int .i64 r, .int .i64 g], .int .i64 t, .int .i64 e] w fun e' w' => e' = .returned (.int .i64 (valE c p d n s l m k r g t e)) ∧ Below w.heap.size w w' := by
  by_cases h : (c = 1 ∨ c = 2) ∧ sensB p d n s l m k = true ∧ kickB r g = true ∧ wi e (-n) n = true ∧ t ≤ 20000
  · have h0 : valE c p d n s l m k r g t e = sayV c r g t + e * s := by unfold valE; rw [if_pos h]
    rw [h0]
    obtain ⟨hc, hb, hk, he, ht⟩ := h
    exact value_ok c p d n s l m k r g t e hc hb hk he ht w
  · have h0 : valE c p d n s l m k r g t e = 0 := by unfold valE; rw [if_neg h]
    exact value_no c p d n s l m k r g t e h0 h w
theorem rvalue_all (c p d n s l m k r g t e : Int) (w : World) :
    Calls Try.prog 84 #[.agg (sv c p d n s l m k), .agg #[.int .i64 r, .int .i64 g], .int .i64 t, .int .i64 e] w fun e' w' => e' = .returned (.int .i64 (valE c p d n s l m k r g t e)) ∧ Below w.heap.size w w' := by
  by_cases h : (c = 1 ∨ c = 2) ∧ sensB p d n s l m k = true ∧ kickB r g = true ∧ wi e (-n) n = true ∧ t ≤ 20000
  · have h0 : valE c p d n s l m k r g t e = sayV c r g t + e * s := by unfold valE; rw [if_pos h]
    rw [h0]
    obtain ⟨hc, hb, hk, he, ht⟩ := h
    exact rvalue_ok c p d n s l m k r g t e hc hb hk he ht w
  · have h0 : valE c p d n s l m k r g t e = 0 := by unfold valE; rw [if_neg h]
    exact rvalue_no c p d n s l m k r g t e h0 h w
end Go.Proofs.Ytngcfohmlppghaa
