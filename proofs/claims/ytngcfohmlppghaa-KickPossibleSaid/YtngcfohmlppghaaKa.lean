/- The contracts of the smallest functions of layer 6: ranges, flows and gains of a kick, and which numbers are valid. -/
import Derived.Test.YtngcfohmlppghaaRows
import Derived.WalkKit
import Derived.WalkSpells
import Derived.WalkLawsBesides
import Derived.ProofKit
import Derived.Handy
import Derived.BigQuiet
import Derived.Deep.QuietTactic
namespace Go.Proofs.Ytngcfohmlppghaa
open Go.RowKit

/-- n lies from lo to hi. -/
def wi (n lo hi : Int) : Bool := decide (lo ≤ n) && decide (n ≤ hi)

set_option maxHeartbeats 400000 in
theorem within_any (n lo hi : Int) (w : World) :
    Calls Try.prog 59 #[.int .i64 n, .int .i64 lo, .int .i64 hi] w fun e w' => e = .returned (.bool (wi n lo hi)) ∧ w = w' := by
  unfold wi
  by_cases h : lo ≤ n
  · go_enter Try.func59, Try.ntmps59
    go_wp2
    go_ret
    exact ⟨by simp [h], rfl⟩
  · go_enter Try.func59, Try.ntmps59
    go_wp2
    go_ret
    exact ⟨by simp; omega, rfl⟩

set_option maxHeartbeats 400000 in
theorem between_any (n lo hi : Int) (w : World) :
    Calls Try.prog 63 #[.int .i64 n, .int .i64 lo, .int .i64 hi] w fun e w' => e = .returned (.bool (wi n lo hi)) ∧ w = w' := by
  unfold wi
  by_cases h : lo ≤ n
  · go_enter Try.func63, Try.ntmps63
    go_wp2
    go_ret
    exact ⟨by simp [h], rfl⟩
  · go_enter Try.func63, Try.ntmps63
    go_wp2
    go_ret
    exact ⟨by simp; omega, rfl⟩

/-- A kick is valid. -/
def kickB (r g : Int) : Bool := wi r 0 16777216 && wi g 0 4096

set_option maxHeartbeats 400000 in
theorem kick_ok (r g : Int) (h : kickB r g = true) (w : World) :
    Calls Try.prog 58 #[.agg #[.int .i64 r, .int .i64 g]] w fun e w' => e = .returned (.int .i64 0) ∧ w.alloc (.cells #[.int .i64 r, .int .i64 g] 29) = w' := by
  simp only [kickB, Bool.and_eq_true] at h
  obtain ⟨h1, h2⟩ := h
  go_enter Try.func58, Try.ntmps58
  go_wp2_with (go_at_call 59; refine (within_any _ _ _ _).mono ?_; rintro e w' ⟨rfl, rfl⟩)
  go_ret
  exact ⟨rfl, rfl⟩

set_option maxHeartbeats 400000 in
theorem kick_no (r g : Int) (h : kickB r g = false) (w : World) :
    Calls Try.prog 58 #[.agg #[.int .i64 r, .int .i64 g]] w fun e w' => e = .returned (.int .i64 2) ∧ w.alloc (.cells #[.int .i64 r, .int .i64 g] 29) = w' := by
  simp only [kickB, Bool.and_eq_false_iff] at h
  cases h1 : wi r 0 16777216
  · clear h
    go_enter Try.func58, Try.ntmps58
    go_wp2_with (go_at_call 59; refine (within_any _ _ _ _).mono ?_; rintro e w' ⟨rfl, rfl⟩)
    go_ret
    exact ⟨rfl, rfl⟩
  · have h2 : wi g 0 4096 = false := by rcases h with h | h <;> simp_all
    clear h
    go_enter Try.func58, Try.ntmps58
    go_wp2_with (go_at_call 59; refine (within_any _ _ _ _).mono ?_; rintro e w' ⟨rfl, rfl⟩)
    go_ret
    exact ⟨rfl, rfl⟩

/-- A sensor is valid, but for its channel. -/
def sensB (p d n s l m k : Int) : Bool := wi p 1 60 && wi d 0 600 && wi n 0 15 && wi s 1 1048576 && wi l 0 5 && wi m 1 1099511627776 && wi k 1 8
/-- A sensor is valid. -/
def senB (c p d n s l m k : Int) : Bool := (c == 1 || c == 2) && sensB p d n s l m k
/-- A sensor as a value. -/
abbrev sv (c p d n s l m k : Int) : Array Value := #[.int .i64 c, .int .i64 p, .int .i64 d, .int .i64 n, .int .i64 s, .int .i64 l, .int .i64 m, .int .i64 k]

set_option maxHeartbeats 400000 in
theorem sensor_ok1 (c p d n s l m k : Int) (hc : c = 1 ∨ c = 2) (h : sensB p d n s l m k = true) (w : World) :
    Calls Try.prog 57 #[.agg (sv c p d n s l m k)] w fun e w' => e = .returned (.int .i64 0) ∧ w.alloc (.cells (sv c p d n s l m k) 32) = w' := by
  simp only [sensB, Bool.and_eq_true] at h
  obtain ⟨⟨⟨⟨⟨⟨h1, h2⟩, h3⟩, h4⟩, h5⟩, h6⟩, h7⟩ := h
  rcases hc with rfl | rfl
  · go_enter Try.func57, Try.ntmps57
    go_wp2_with (go_at_call 59; refine (within_any _ _ _ _).mono ?_; rintro e w' ⟨rfl, rfl⟩)
    go_ret
    exact ⟨rfl, rfl⟩
  · go_enter Try.func57, Try.ntmps57
    go_wp2_with (go_at_call 59; refine (within_any _ _ _ _).mono ?_; rintro e w' ⟨rfl, rfl⟩)
    go_ret
    exact ⟨rfl, rfl⟩

set_option maxHeartbeats 400000 in
theorem sensor_kind (c p d n s l m k : Int) (h1 : (c != 1) = true) (h2 : (c != 2) = true) (w : World) :
    Calls Try.prog 57 #[.agg (sv c p d n s l m k)] w fun e w' => e = .returned (.int .i64 4) ∧ w.alloc (.cells (sv c p d n s l m k) 32) = w' := by
  go_enter Try.func57, Try.ntmps57
  go_wp2
  go_ret
  exact ⟨rfl, rfl⟩

set_option maxHeartbeats 1600000 in
theorem sensor_range (c p d n s l m k : Int) (hc : c = 1 ∨ c = 2) (h : sensB p d n s l m k = false) (w : World) :
    Calls Try.prog 57 #[.agg (sv c p d n s l m k)] w fun e w' => e = .returned (.int .i64 2) ∧ w.alloc (.cells (sv c p d n s l m k) 32) = w' := by
  cases h1 : wi p 1 60
  · clear h
    rcases hc with rfl | rfl <;>
    (go_enter Try.func57, Try.ntmps57
     go_wp2_with (go_at_call 59; refine (within_any _ _ _ _).mono ?_; rintro e w' ⟨rfl, rfl⟩)
     go_ret
     exact ⟨rfl, rfl⟩)
  cases h2 : wi d 0 600
  · clear h
    rcases hc with rfl | rfl <;>
    (go_enter Try.func57, Try.ntmps57
     go_wp2_with (go_at_call 59; refine (within_any _ _ _ _).mono ?_; rintro e w' ⟨rfl, rfl⟩)
     go_ret
     exact ⟨rfl, rfl⟩)
  cases h3 : wi n 0 15
  · clear h
    rcases hc with rfl | rfl <;>
    (go_enter Try.func57, Try.ntmps57
     go_wp2_with (go_at_call 59; refine (within_any _ _ _ _).mono ?_; rintro e w' ⟨rfl, rfl⟩)
     go_ret
     exact ⟨rfl, rfl⟩)
  cases h4 : wi s 1 1048576
  · clear h
    rcases hc with rfl | rfl <;>
    (go_enter Try.func57, Try.ntmps57
     go_wp2_with (go_at_call 59; refine (within_any _ _ _ _).mono ?_; rintro e w' ⟨rfl, rfl⟩)
     go_ret
     exact ⟨rfl, rfl⟩)
  cases h5 : wi l 0 5
  · clear h
    rcases hc with rfl | rfl <;>
    (go_enter Try.func57, Try.ntmps57
     go_wp2_with (go_at_call 59; refine (within_any _ _ _ _).mono ?_; rintro e w' ⟨rfl, rfl⟩)
     go_ret
     exact ⟨rfl, rfl⟩)
  cases h6 : wi m 1 1099511627776
  · clear h
    rcases hc with rfl | rfl <;>
    (go_enter Try.func57, Try.ntmps57
     go_wp2_with (go_at_call 59; refine (within_any _ _ _ _).mono ?_; rintro e w' ⟨rfl, rfl⟩)
     go_ret
     exact ⟨rfl, rfl⟩)
  cases h7 : wi k 1 8
  · clear h
    rcases hc with rfl | rfl <;>
    (go_enter Try.func57, Try.ntmps57
     go_wp2_with (go_at_call 59; refine (within_any _ _ _ _).mono ?_; rintro e w' ⟨rfl, rfl⟩)
     go_ret
     exact ⟨rfl, rfl⟩)
  simp [sensB, h1, h2, h3, h4, h5, h6, h7] at h

set_option maxHeartbeats 400000 in
theorem rkick_ok (r g : Int) (h : kickB r g = true) (w : World) :
    Calls Try.prog 62 #[.agg #[.int .i64 r, .int .i64 g]] w fun e w' => e = .returned (.int .i64 0) ∧ w.alloc (.cells #[.int .i64 r, .int .i64 g] 29) = w' := by
  simp only [kickB, Bool.and_eq_true] at h
  obtain ⟨h1, h2⟩ := h
  go_enter Try.func62, Try.ntmps62
  go_wp2_with (go_at_call 63; refine (between_any _ _ _ _).mono ?_; rintro e w' ⟨rfl, rfl⟩)
  go_ret
  exact ⟨rfl, rfl⟩

set_option maxHeartbeats 400000 in
theorem rkick_no (r g : Int) (h : kickB r g = false) (w : World) :
    Calls Try.prog 62 #[.agg #[.int .i64 r, .int .i64 g]] w fun e w' => e = .returned (.int .i64 2) ∧ w.alloc (.cells #[.int .i64 r, .int .i64 g] 29) = w' := by
  simp only [kickB, Bool.and_eq_false_iff] at h
  cases h1 : wi r 0 16777216
  · clear h
    go_enter Try.func62, Try.ntmps62
    go_wp2_with (go_at_call 63; refine (between_any _ _ _ _).mono ?_; rintro e w' ⟨rfl, rfl⟩)
    go_ret
    exact ⟨rfl, rfl⟩
  · have h2 : wi g 0 4096 = false := by rcases h with h | h <;> simp_all
    clear h
    go_enter Try.func62, Try.ntmps62
    go_wp2_with (go_at_call 63; refine (between_any _ _ _ _).mono ?_; rintro e w' ⟨rfl, rfl⟩)
    go_ret
    exact ⟨rfl, rfl⟩

set_option maxHeartbeats 400000 in
theorem rsensor_ok1 (c p d n s l m k : Int) (hc : c = 1 ∨ c = 2) (h : sensB p d n s l m k = true) (w : World) :
    Calls Try.prog 61 #[.agg (sv c p d n s l m k)] w fun e w' => e = .returned (.int .i64 0) ∧ w.alloc (.cells (sv c p d n s l m k) 32) = w' := by
  simp only [sensB, Bool.and_eq_true] at h
  obtain ⟨⟨⟨⟨⟨⟨h1, h2⟩, h3⟩, h4⟩, h5⟩, h6⟩, h7⟩ := h
  rcases hc with rfl | rfl
  · go_enter Try.func61, Try.ntmps61
    go_wp2_with (go_at_call 63; refine (between_any _ _ _ _).mono ?_; rintro e w' ⟨rfl, rfl⟩)
    go_ret
    exact ⟨rfl, rfl⟩
  · go_enter Try.func61, Try.ntmps61
    go_wp2_with (go_at_call 63; refine (between_any _ _ _ _).mono ?_; rintro e w' ⟨rfl, rfl⟩)
    go_ret
    exact ⟨rfl, rfl⟩

set_option maxHeartbeats 400000 in
theorem rsensor_kind (c p d n s l m k : Int) (h1 : (c != 1) = true) (h2 : (c != 2) = true) (w : World) :
    Calls Try.prog 61 #[.agg (sv c p d n s l m k)] w fun e w' => e = .returned (.int .i64 4) ∧ w.alloc (.cells (sv c p d n s l m k) 32) = w' := by
  go_enter Try.func61, Try.ntmps61
  go_wp2
  go_ret
  exact ⟨rfl, rfl⟩

set_option maxHeartbeats 1600000 in
theorem rsensor_range (c p d n s l m k : Int) (hc : c = 1 ∨ c = 2) (h : sensB p d n s l m k = false) (w : World) :
    Calls Try.prog 61 #[.agg (sv c p d n s l m k)] w fun e w' => e = .returned (.int .i64 2) ∧ w.alloc (.cells (sv c p d n s l m k) 32) = w' := by
  cases h1 : wi p 1 60
  · clear h
    rcases hc with rfl | rfl <;>
    (go_enter Try.func61, Try.ntmps61
     go_wp2_with (go_at_call 63; refine (between_any _ _ _ _).mono ?_; rintro e w' ⟨rfl, rfl⟩)
     go_ret
     exact ⟨rfl, rfl⟩)
  cases h2 : wi d 0 600
  · clear h
    rcases hc with rfl | rfl <;>
    (go_enter Try.func61, Try.ntmps61
     go_wp2_with (go_at_call 63; refine (between_any _ _ _ _).mono ?_; rintro e w' ⟨rfl, rfl⟩)
     go_ret
     exact ⟨rfl, rfl⟩)
  cases h3 : wi n 0 15
  · clear h
    rcases hc with rfl | rfl <;>
    (go_enter Try.func61, Try.ntmps61
     go_wp2_with (go_at_call 63; refine (between_any _ _ _ _).mono ?_; rintro e w' ⟨rfl, rfl⟩)
     go_ret
     exact ⟨rfl, rfl⟩)
  cases h4 : wi s 1 1048576
  · clear h
    rcases hc with rfl | rfl <;>
    (go_enter Try.func61, Try.ntmps61
     go_wp2_with (go_at_call 63; refine (between_any _ _ _ _).mono ?_; rintro e w' ⟨rfl, rfl⟩)
     go_ret
     exact ⟨rfl, rfl⟩)
  cases h5 : wi l 0 5
  · clear h
    rcases hc with rfl | rfl <;>
    (go_enter Try.func61, Try.ntmps61
     go_wp2_with (go_at_call 63; refine (between_any _ _ _ _).mono ?_; rintro e w' ⟨rfl, rfl⟩)
     go_ret
     exact ⟨rfl, rfl⟩)
  cases h6 : wi m 1 1099511627776
  · clear h
    rcases hc with rfl | rfl <;>
    (go_enter Try.func61, Try.ntmps61
     go_wp2_with (go_at_call 63; refine (between_any _ _ _ _).mono ?_; rintro e w' ⟨rfl, rfl⟩)
     go_ret
     exact ⟨rfl, rfl⟩)
  cases h7 : wi k 1 8
  · clear h
    rcases hc with rfl | rfl <;>
    (go_enter Try.func61, Try.ntmps61
     go_wp2_with (go_at_call 63; refine (between_any _ _ _ _).mono ?_; rintro e w' ⟨rfl, rfl⟩)
     go_ret
     exact ⟨rfl, rfl⟩)
  simp [sensB, h1, h2, h3, h4, h5, h6, h7] at h
end Go.Proofs.Ytngcfohmlppghaa
