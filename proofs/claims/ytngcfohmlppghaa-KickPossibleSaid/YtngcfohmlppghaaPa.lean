/- The contracts of Possible for all inputs, by the program and by the reference: the same answer. -/
import Derived.Test.YtngcfohmlppghaaPr
namespace Go.Proofs.Ytngcfohmlppghaa
open Go.RowKit

set_option maxRecDepth 100000 in
set_option maxHeartbeats 2000000 in
theorem possible_no (c p d n s l m k r g bg : Int) (a : Option Addr) (len cap : Nat) (hm : len ≤ 9223372036854775807) (h : (decide (senE c p d n s l m k = 0) && (kickB r g && (wi bg 0 20000 && decide (len ≤ 200)))) = false) (w : World) :
    Calls Try.prog 26 #[.agg (sv c p d n s l m k), .agg #[.int .i64 r, .int .i64 g], .int .i64 bg, .slice a len cap] w fun e' w' => e' = .returned (.bool false) ∧ Below w.heap.size w w' := by
  have hs := sensor_any c p d n s l m k
  obtain ⟨e, he⟩ : ∃ e, e = senE c p d n s l m k := ⟨_, rfl⟩
  rw [← he] at hs h
  have HS : Aside (∀ w : World, Calls Try.prog 57 #[.agg (sv c p d n s l m k)] w fun e' w' => e' = .returned (.int .i64 e) ∧ w.alloc (.cells (sv c p d n s l m k) 32) = w') := hs
  clear hs he
  by_cases h0 : e = 0
  · subst h0
    cases hk : kickB r g
    · clear h
      go_enter Try.func26, Try.ntmps26
      go_wp2_with (first
        | (go_at_call 57; refine (HS.out _).mono ?_; rintro e w' ⟨rfl, rfl⟩)
        | (go_at_call 58; refine (kick_no r g hk _).mono ?_; rintro e w' ⟨rfl, rfl⟩))
      go_ret
      exact ⟨rfl, by go_grown⟩
    · cases hw : wi bg 0 20000
      · clear h
        go_enter Try.func26, Try.ntmps26
        go_wp2_with (first
          | (go_at_call 57; refine (HS.out _).mono ?_; rintro e w' ⟨rfl, rfl⟩)
          | (go_at_call 58; refine (kick_ok r g hk _).mono ?_; rintro e w' ⟨rfl, rfl⟩)
          | (go_at_call 59; refine (within_any bg 0 20000 _).mono ?_; rw [hw]; rintro e w' ⟨rfl, rfl⟩))
        go_ret
        exact ⟨rfl, by go_grown⟩
      · have hl : (200 : Int) < (len : Int) := by simp [hk, hw] at h; omega
        clear h
        go_enter Try.func26, Try.ntmps26
        go_wp2_with (first
          | (go_at_call 57; refine (HS.out _).mono ?_; rintro e w' ⟨rfl, rfl⟩)
          | (go_at_call 58; refine (kick_ok r g hk _).mono ?_; rintro e w' ⟨rfl, rfl⟩)
          | (go_at_call 59; refine (within_any bg 0 20000 _).mono ?_; rw [hw]; rintro e w' ⟨rfl, rfl⟩))
        go_ret
        exact ⟨rfl, by go_grown⟩
  · have hne : (e != 0) = true := by rw [bne_iff_ne]; exact h0
    clear h h0
    go_enter Try.func26, Try.ntmps26
    go_wp2_with (go_at_call 57; refine (HS.out _).mono ?_; rintro e w' ⟨rfl, rfl⟩)
    go_ret
    exact ⟨rfl, by go_grown⟩
theorem possible_all (c p d n s l m k r g bg : Int) (a : Option Addr) (len cap : Nat) (T : Nat → Nat → Int) (w : World) (h : IsRows 3 w a len cap T) (hT : ∀ i j, i < len → j < 3 → IntKind.i64.has (T i j)) :
    Calls Try.prog 26 #[.agg (sv c p d n s l m k), .agg #[.int .i64 r, .int .i64 g], .int .i64 bg, .slice a len cap] w fun e' w' => e' = .returned (.bool (posE c p d n s l m k r g bg T len)) ∧ Below w.heap.size w w' := by
  unfold posE
  cases hb : (decide (senE c p d n s l m k = 0) && (kickB r g && (wi bg 0 20000 && decide (len ≤ 200))))
  · have e : (decide (senE c p d n s l m k = 0) && (kickB r g && (wi bg 0 20000 && (decide (len ≤ 200) && posF c p n s l r g bg T len 0 (-1))))) = false := by
      rw [← Bool.and_assoc, ← Bool.and_assoc, ← Bool.and_assoc]
      rw [← Bool.and_assoc, ← Bool.and_assoc] at hb
      rw [hb]
      rfl
    rw [e]
    exact possible_no c p d n s l m k r g bg a len cap h.1 hb w
  · simp only [Bool.and_eq_true, decide_eq_true_eq] at hb
    obtain ⟨h1, h2, h3, h4⟩ := hb
    obtain ⟨hc, hs⟩ := senE_ok h1
    rw [decide_eq_true h1, h2, h3, decide_eq_true h4]
    simp only [Bool.true_and]
    exact possible_ok c p d n s l m k r g bg hc hs h2 h3 a len cap T h4 w h hT
set_option maxRecDepth 100000 in
set_option maxHeartbeats 2000000 in
theorem rpossible_no (c p d n s l m k r g bg : Int) (a : Option Addr) (len cap : Nat) (hm : len ≤ 9223372036854775807) (h : (decide (senE c p d n s l m k = 0) && (kickB r g && (wi bg 0 20000 && decide (len ≤ 200)))) = false) (w : World) :
    Calls Try.prog 27 #[.agg (sv c p d n s l m k), .agg #[.int .i64 r, .int .i64 g], .int .i64 bg, .slice a len cap] w fun e' w' => e' = .returned (.bool false) ∧ Below w.heap.size w w' := by
  have hs := rsensor_any c p d n s l m k
  obtain ⟨e, he⟩ : ∃ e, e = senE c p d n s l m k := ⟨_, rfl⟩
  rw [← he] at hs h
  have HS : Aside (∀ w : World, Calls Try.prog 61 #[.agg (sv c p d n s l m k)] w fun e' w' => e' = .returned (.int .i64 e) ∧ w.alloc (.cells (sv c p d n s l m k) 32) = w') := hs
  clear hs he
  by_cases h0 : e = 0
  · subst h0
    cases hk : kickB r g
    · clear h
      go_enter Try.func27, Try.ntmps27
      go_wp2_with (first
        | (go_at_call 61; refine (HS.out _).mono ?_; rintro e w' ⟨rfl, rfl⟩)
        | (go_at_call 62; refine (rkick_no r g hk _).mono ?_; rintro e w' ⟨rfl, rfl⟩))
      go_ret
      exact ⟨rfl, by go_grown⟩
    · cases hw : wi bg 0 20000
      · clear h
        go_enter Try.func27, Try.ntmps27
        go_wp2_with (first
          | (go_at_call 61; refine (HS.out _).mono ?_; rintro e w' ⟨rfl, rfl⟩)
          | (go_at_call 62; refine (rkick_ok r g hk _).mono ?_; rintro e w' ⟨rfl, rfl⟩)
          | (go_at_call 63; refine (between_any bg 0 20000 _).mono ?_; rw [hw]; rintro e w' ⟨rfl, rfl⟩))
        go_ret
        exact ⟨rfl, by go_grown⟩
      · have hl : (200 : Int) < (len : Int) := by simp [hk, hw] at h; omega
        clear h
        go_enter Try.func27, Try.ntmps27
        go_wp2_with (first
          | (go_at_call 61; refine (HS.out _).mono ?_; rintro e w' ⟨rfl, rfl⟩)
          | (go_at_call 62; refine (rkick_ok r g hk _).mono ?_; rintro e w' ⟨rfl, rfl⟩)
          | (go_at_call 63; refine (between_any bg 0 20000 _).mono ?_; rw [hw]; rintro e w' ⟨rfl, rfl⟩))
        go_ret
        exact ⟨rfl, by go_grown⟩
  · have hne : (e != 0) = true := by rw [bne_iff_ne]; exact h0
    clear h h0
    go_enter Try.func27, Try.ntmps27
    go_wp2_with (go_at_call 61; refine (HS.out _).mono ?_; rintro e w' ⟨rfl, rfl⟩)
    go_ret
    exact ⟨rfl, by go_grown⟩
theorem rpossible_all (c p d n s l m k r g bg : Int) (a : Option Addr) (len cap : Nat) (T : Nat → Nat → Int) (w : World) (h : IsRows 3 w a len cap T) :
    Calls Try.prog 27 #[.agg (sv c p d n s l m k), .agg #[.int .i64 r, .int .i64 g], .int .i64 bg, .slice a len cap] w fun e' w' => e' = .returned (.bool (posE c p d n s l m k r g bg T len)) ∧ Below w.heap.size w w' := by
  unfold posE
  cases hb : (decide (senE c p d n s l m k = 0) && (kickB r g && (wi bg 0 20000 && decide (len ≤ 200))))
  · have e : (decide (senE c p d n s l m k = 0) && (kickB r g && (wi bg 0 20000 && (decide (len ≤ 200) && posF c p n s l r g bg T len 0 (-1))))) = false := by
      rw [← Bool.and_assoc, ← Bool.and_assoc, ← Bool.and_assoc]
      rw [← Bool.and_assoc, ← Bool.and_assoc] at hb
      rw [hb]
      rfl
    rw [e]
    exact rpossible_no c p d n s l m k r g bg a len cap h.1 hb w
  · simp only [Bool.and_eq_true, decide_eq_true_eq] at hb
    obtain ⟨h1, h2, h3, h4⟩ := hb
    obtain ⟨hc, hs⟩ := senE_ok h1
    rw [decide_eq_true h1, h2, h3, decide_eq_true h4]
    simp only [Bool.true_and]
    exact rpossible_ok c p d n s l m k r g bg hc hs h2 h3 a len cap T h4 w h
end Go.Proofs.Ytngcfohmlppghaa
