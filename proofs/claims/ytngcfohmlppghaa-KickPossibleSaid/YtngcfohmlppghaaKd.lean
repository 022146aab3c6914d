/- The contracts of Late, Gain and Flow of layer 6, and of the examples that every statement asks. -/
import Derived.Test.YtngcfohmlppghaaKc
namespace Go.Proofs.Ytngcfohmlppghaa
open Go.RowKit

theorem bel_trans {w a b : World} (h1 : Below w.heap.size w a) (h2 : Below a.heap.size a b) : Below w.heap.size w b := h1.trans (h2.mono h1.size)
theorem fit_of {c p d n s l m k r g : Int} (h : sensB p d n s l m k = true) (hk : kickB r g = true) : Fit c p d n s l m k r g := by
  simp [sensB, wi] at h
  simp [kickB, wi] at hk
  constructor <;> omega

set_option maxHeartbeats 400000 in
theorem late_yes (c p d n s l m k r g : Int) (hc : c = 1 ∨ c = 2) (h : sensB p d n s l m k = true) (hk : kickB r g = true) (hb : (latestV c p d n s l m k r g).2 = true) (w : World) :
    Calls Try.prog 29 #[.agg (sv c p d n s l m k), .agg #[.int .i64 r, .int .i64 g]] w fun e w' =>
      e = .returned (.tuple #[.int .i64 (latestV c p d n s l m k r g).1.2.2, .bool true]) ∧ Below w.heap.size w w' := by
  have hf := fit_of (c := c) h hk
  go_enter Try.func29, Try.ntmps29
  go_wp2_with (first
    | (go_at_call 57; refine (sensor_ok1 _ _ _ _ _ _ _ _ hc h _).mono ?_; rintro e w' ⟨rfl, rfl⟩)
    | (go_at_call 58; refine (kick_ok _ _ hk _).mono ?_; rintro e w' ⟨rfl, rfl⟩)
    | (go_at_call 65; refine (latest_any _ _ _ _ _ _ _ _ _ _ hf _).mono ?_; rintro e w1 ⟨rfl, hb1⟩))
  go_ret2
  refine ⟨rfl, ?_⟩
  exact (bel_trans (by go_grown) hb1).alloc (by have := hb1.size; simp at this; omega) _

set_option maxHeartbeats 400000 in
theorem late_no (c p d n s l m k r g : Int) (hc : c = 1 ∨ c = 2) (h : sensB p d n s l m k = true) (hk : kickB r g = true) (hb : (latestV c p d n s l m k r g).2 = false) (w : World) :
    Calls Try.prog 29 #[.agg (sv c p d n s l m k), .agg #[.int .i64 r, .int .i64 g]] w fun e w' =>
      e = .returned (.tuple #[.int .i64 0, .bool false]) ∧ Below w.heap.size w w' := by
  have hf := fit_of (c := c) h hk
  go_enter Try.func29, Try.ntmps29
  go_wp2_with (first
    | (go_at_call 57; refine (sensor_ok1 _ _ _ _ _ _ _ _ hc h _).mono ?_; rintro e w' ⟨rfl, rfl⟩)
    | (go_at_call 58; refine (kick_ok _ _ hk _).mono ?_; rintro e w' ⟨rfl, rfl⟩)
    | (go_at_call 65; refine (latest_any _ _ _ _ _ _ _ _ _ _ hf _).mono ?_; rintro e w1 ⟨rfl, hb1⟩))
  go_ret2
  refine ⟨rfl, ?_⟩
  exact (bel_trans (by go_grown) hb1).alloc (by have := hb1.size; simp at this; omega) _

set_option maxHeartbeats 400000 in
theorem gain_any (r g n : Int) (hk : kickB r g = true) (hn : n ≤ 20000) (w : World) :
    Calls Try.prog 41 #[.agg #[.int .i64 r, .int .i64 g], .int .i64 n] w fun e w' =>
      e = .returned (.int .i64 (gainV r g n)) ∧ Below w.heap.size w w' := by
  obtain ⟨hr, hg⟩ := kickB_bd hk
  go_enter Try.func41, Try.ntmps41
  go_wp2_with (first
    | (go_at_call 58; refine (kick_ok _ _ hk _).mono ?_; rintro e w' ⟨rfl, rfl⟩)
    | (go_at_call 75; refine (cgain_any _ _ _ hr hg hn _).mono ?_; rintro e w' ⟨rfl, rfl⟩))
  go_ret
  exact ⟨rfl, by go_grown⟩

set_option maxHeartbeats 400000 in
theorem flow_any (r g n : Int) (hk : kickB r g = true) (hn : n ≤ 20000) (w : World) :
    Calls Try.prog 40 #[.agg #[.int .i64 r, .int .i64 g], .int .i64 n] w fun e w' =>
      e = .returned (.int .i64 (flowV r g n)) ∧ Below w.heap.size w w' := by
  obtain ⟨hr, hg⟩ := kickB_bd hk
  go_enter Try.func40, Try.ntmps40
  go_wp2_with (first
    | (go_at_call 58; refine (kick_ok _ _ hk _).mono ?_; rintro e w' ⟨rfl, rfl⟩)
    | (go_at_call 77; refine (cflow_any _ _ _ hr hg hn _).mono ?_; rintro e w' ⟨rfl, rfl⟩))
  go_ret
  exact ⟨rfl, by go_grown⟩

theorem latest_shown : latestV 1 10 5 2 1000 1 20000 2 1000 100 = (((latestV 1 10 5 2 1000 1 20000 2 1000 100).1.1, (latestV 1 10 5 2 1000 1 20000 2 1000 100).1.2.1, 58), true) := by kernel_rfl
end Go.Proofs.Ytngcfohmlppghaa
