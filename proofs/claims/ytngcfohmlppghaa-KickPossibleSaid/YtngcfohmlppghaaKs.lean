/- Pairs of functions of layer 6 that return the same: lists of sensors. -/
import Derived.Test.YtngcfohmlppghaaKd
import Derived.Deep.LoopGhost
namespace Go.Proofs.Ytngcfohmlppghaa
open Go.RowKit

/-- The error of a sensor with these numbers. -/
def senE (c p d n s l m k : Int) : Int := if c = 1 ∨ c = 2 then (if sensB p d n s l m k = true then 0 else 2) else 4
theorem sensor_any (c p d n s l m k : Int) (w : World) :
    Calls Try.prog 57 #[.agg (sv c p d n s l m k)] w fun e w' => e = .returned (.int .i64 (senE c p d n s l m k)) ∧ w.alloc (.cells (sv c p d n s l m k) 32) = w' := by
  unfold senE
  by_cases hc : c = 1 ∨ c = 2
  · rw [if_pos hc]
    cases h : sensB p d n s l m k
    · simpa using sensor_range c p d n s l m k hc h w
    · simpa using sensor_ok1 c p d n s l m k hc h w
  · rw [if_neg hc]
    exact sensor_kind c p d n s l m k (by rw [bne_iff_ne]; omega) (by rw [bne_iff_ne]; omega) w
theorem rsensor_any (c p d n s l m k : Int) (w : World) :
    Calls Try.prog 61 #[.agg (sv c p d n s l m k)] w fun e w' => e = .returned (.int .i64 (senE c p d n s l m k)) ∧ w.alloc (.cells (sv c p d n s l m k) 32) = w' := by
  unfold senE
  by_cases hc : c = 1 ∨ c = 2
  · rw [if_pos hc]
    cases h : sensB p d n s l m k
    · simpa using rsensor_range c p d n s l m k hc h w
    · simpa using rsensor_ok1 c p d n s l m k hc h w
  · rw [if_neg hc]
    exact rsensor_kind c p d n s l m k (by rw [bne_iff_ne]; omega) (by rw [bne_iff_ne]; omega) w

/-- A slice of sensors that came in: nil, or a row of cells, eight for each. -/
def IsSens (w : World) (a : Option Addr) (len cap : Nat) (S : Nat → Nat → Int) : Prop :=
  len ≤ 9223372036854775807 ∧ (0 < len → ∃ b off, a = some ⟨b, off, none⟩ ∧ b < w.heap.size ∧ ∀ i j, i < len → j < 8 → w.cell? ⟨b, off + i * 8 + j, none⟩ = some (.int .i64 (S i j))) ∧ len ≤ cap
theorem IsSens.kept {w w' : World} {a : Option Addr} {len cap : Nat} {S : Nat → Nat → Int} (h : IsSens w a len cap S) (hb : Below w.heap.size w w') : IsSens w' a len cap S := by
  obtain ⟨h0, h1, h2⟩ := h
  refine ⟨h0, fun hl => ?_, h2⟩
  obtain ⟨b, off, ha, hlt, hc⟩ := h1 hl
  exact ⟨b, off, ha, Nat.lt_of_lt_of_le hlt hb.size, fun i j hi hj => (hb.cell (p := ⟨_, _, _⟩) hlt).trans (hc i j hi hj)⟩
def eOf (S : Nat → Nat → Int) (i : Nat) : Int := senE (S i 0) (S i 1) (S i 2) (S i 3) (S i 4) (S i 5) (S i 6) (S i 7)
def firstE (S : Nat → Nat → Int) : Nat → Nat → Int
  | 0, _ => 0
  | f + 1, i => if eOf S i = 0 then firstE S f (i + 1) else eOf S i
/-- The error of a list of sensors. -/
def sensE (S : Nat → Nat → Int) (len : Nat) : Int := if len = 0 then 6 else if 4 < len then 8 else firstE S len 0

set_option maxHeartbeats 2000000 in
theorem sensors_any (a : Option Addr) (len cap : Nat) (S : Nat → Nat → Int) (w : World) (h : IsSens w a len cap S) :
    Calls Try.prog 49 #[.slice a len cap] w fun e w' => e = .returned (.int .i64 (sensE S len)) ∧ Below w.heap.size w w' := by
  obtain ⟨hm, hrow, hcap⟩ := h
  unfold sensE
  by_cases h0 : len = 0
  · rw [if_pos h0]
    subst h0
    clear hrow
    go_enter Try.func49, Try.ntmps49
    go_wp2
    go_ret
    exact ⟨rfl, by go_grown⟩
  rw [if_neg h0]
  by_cases h4 : 4 < len
  · rw [if_pos h4]
    have hl0 : ((len : Int) == 0) = false := by rw [beq_eq_false_iff_ne]; omega
    have hl4 : (4 : Int) < (len : Int) := by omega
    clear hrow h0
    go_enter Try.func49, Try.ntmps49
    go_wp2
    go_ret
    exact ⟨rfl, by go_grown⟩
  rw [if_neg h4]
  have hl0 : ((len : Int) == 0) = false := by rw [beq_eq_false_iff_ne]; omega
  have hl4 : (len : Int) ≤ 4 := by omega
  obtain ⟨b, off, rfl, hlt, hc0⟩ := hrow (by omega)
  have hc : Aside (∀ i j, i < len → j < 8 → w.cell? ⟨b, off + i * 8 + j, none⟩ = some (.int .i64 (S i j))) := hc0
  clear hrow hc0 h0 h4
  obtain ⟨E, hE⟩ : ∃ E, firstE S len 0 = E := ⟨_, rfl⟩
  have HE : Aside (firstE S len 0 = E) := hE
  rw [hE]
  clear hE
  go_enter Try.func49, Try.ntmps49
  go_wp2
  go_loopg [14] len (fun g vi wr => ∃ i : Nat, i + g = len ∧ vi = .int .i64 i ∧ Below w.heap.size w wr ∧ Aside (firstE S g i = E))
  case atStart => exact ⟨0, by omega, rfl, Below.refl _ _, HE.out⟩
  case round =>
    obtain ⟨i, hi, rfl, hbx, HF⟩ := hrel
    have hsz := hbx.size
    cases gk with
    | zero =>
      have hil : ¬ (i : Int) < (len : Int) := by omega
      have HZ : Aside ((0 : Int) = E) := HF
      clear HF
      go_wp2
      go_ret
      rw [← HZ.out]
      exact ⟨rfl, hbx⟩
    | succ g =>
      have hil : (i : Int) < (len : Int) := by omega
      have c0 : wr.cell? ⟨b, off + i * 8, none⟩ = some (.int .i64 (S i 0)) := (hbx.cell (p := ⟨_, _, _⟩) hlt).trans (hc.out i 0 (by omega) (by omega))
      have c1 : wr.cell? ⟨b, off + i * 8 + 1, none⟩ = some (.int .i64 (S i 1)) := (hbx.cell (p := ⟨_, _, _⟩) hlt).trans (hc.out i 1 (by omega) (by omega))
      have c2 : wr.cell? ⟨b, off + i * 8 + 2, none⟩ = some (.int .i64 (S i 2)) := (hbx.cell (p := ⟨_, _, _⟩) hlt).trans (hc.out i 2 (by omega) (by omega))
      have c3 : wr.cell? ⟨b, off + i * 8 + 3, none⟩ = some (.int .i64 (S i 3)) := (hbx.cell (p := ⟨_, _, _⟩) hlt).trans (hc.out i 3 (by omega) (by omega))
      have c4 : wr.cell? ⟨b, off + i * 8 + 4, none⟩ = some (.int .i64 (S i 4)) := (hbx.cell (p := ⟨_, _, _⟩) hlt).trans (hc.out i 4 (by omega) (by omega))
      have c5 : wr.cell? ⟨b, off + i * 8 + 5, none⟩ = some (.int .i64 (S i 5)) := (hbx.cell (p := ⟨_, _, _⟩) hlt).trans (hc.out i 5 (by omega) (by omega))
      have c6 : wr.cell? ⟨b, off + i * 8 + 6, none⟩ = some (.int .i64 (S i 6)) := (hbx.cell (p := ⟨_, _, _⟩) hlt).trans (hc.out i 6 (by omega) (by omega))
      have c7 : wr.cell? ⟨b, off + i * 8 + 7, none⟩ = some (.int .i64 (S i 7)) := (hbx.cell (p := ⟨_, _, _⟩) hlt).trans (hc.out i 7 (by omega) (by omega))
      by_cases he : eOf S i = 0
      · have HF' : Aside (firstE S g (i + 1) = E) := by
          show _ = _
          rw [← HF.out]
          simp only [firstE]
          rw [if_pos he]
        have H0 : Aside (senE (S i 0) (S i 1) (S i 2) (S i 3) (S i 4) (S i 5) (S i 6) (S i 7) = 0) := he
        clear HF he
        go_wp2_with (go_at_call 57; refine (sensor_any _ _ _ _ _ _ _ _ _).mono ?_; rw [H0.out]; rintro e w' ⟨rfl, rfl⟩)
        go_roundg g
        case measure => omega
        case rel =>
          refine ⟨i + 1, by omega, by first | rfl | go_num, ?_, HF'⟩
          go_grown
      · have hne : (eOf S i != 0) = true := by rw [bne_iff_ne]; exact he
        have HF' : Aside (eOf S i = E) := by
          show _ = _
          rw [← HF.out]
          simp only [firstE]
          rw [if_neg he]
        have H0 : Aside (senE (S i 0) (S i 1) (S i 2) (S i 3) (S i 4) (S i 5) (S i 6) (S i 7) = eOf S i) := rfl
        clear HF he
        go_wp2_with (go_at_call 57; refine (sensor_any _ _ _ _ _ _ _ _ _).mono ?_; rw [H0.out]; rintro e w' ⟨rfl, rfl⟩)
        go_ret
        rw [HF'.out]
        refine ⟨rfl, ?_⟩
        go_grown
set_option maxHeartbeats 2000000 in
theorem rsensors_any (a : Option Addr) (len cap : Nat) (S : Nat → Nat → Int) (w : World) (h : IsSens w a len cap S) :
    Calls Try.prog 53 #[.slice a len cap] w fun e w' => e = .returned (.int .i64 (sensE S len)) ∧ Below w.heap.size w w' := by
  obtain ⟨hm, hrow, hcap⟩ := h
  unfold sensE
  by_cases h0 : len = 0
  · rw [if_pos h0]
    subst h0
    clear hrow
    go_enter Try.func53, Try.ntmps53
    go_wp2
    go_ret
    exact ⟨rfl, by go_grown⟩
  rw [if_neg h0]
  by_cases h4 : 4 < len
  · rw [if_pos h4]
    have hl0 : ((len : Int) == 0) = false := by rw [beq_eq_false_iff_ne]; omega
    have hl4 : (4 : Int) < (len : Int) := by omega
    clear hrow h0
    go_enter Try.func53, Try.ntmps53
    go_wp2
    go_ret
    exact ⟨rfl, by go_grown⟩
  rw [if_neg h4]
  have hl0 : ((len : Int) == 0) = false := by rw [beq_eq_false_iff_ne]; omega
  have hl4 : (len : Int) ≤ 4 := by omega
  obtain ⟨b, off, rfl, hlt, hc0⟩ := hrow (by omega)
  have hc : Aside (∀ i j, i < len → j < 8 → w.cell? ⟨b, off + i * 8 + j, none⟩ = some (.int .i64 (S i j))) := hc0
  clear hrow hc0 h0 h4
  obtain ⟨E, hE⟩ : ∃ E, firstE S len 0 = E := ⟨_, rfl⟩
  have HE : Aside (firstE S len 0 = E) := hE
  rw [hE]
  clear hE
  go_enter Try.func53, Try.ntmps53
  go_wp2
  go_loopg [3] len (fun g vi wr => ∃ i : Nat, i + g = len ∧ vi = .int .i64 i ∧ Below w.heap.size w wr ∧ Aside (firstE S g i = E))
  case atStart => exact ⟨0, by omega, rfl, Below.refl _ _, HE.out⟩
  case round =>
    obtain ⟨i, hi, rfl, hbx, HF⟩ := hrel
    have hsz := hbx.size
    cases gk with
    | zero =>
      have hil : ¬ (i : Int) < (len : Int) := by omega
      have HZ : Aside ((0 : Int) = E) := HF
      clear HF
      go_wp2
      go_ret
      rw [← HZ.out]
      exact ⟨rfl, hbx⟩
    | succ g =>
      have hil : (i : Int) < (len : Int) := by omega
      have c0 : wr.cell? ⟨b, off + i * 8, none⟩ = some (.int .i64 (S i 0)) := (hbx.cell (p := ⟨_, _, _⟩) hlt).trans (hc.out i 0 (by omega) (by omega))
      have c1 : wr.cell? ⟨b, off + i * 8 + 1, none⟩ = some (.int .i64 (S i 1)) := (hbx.cell (p := ⟨_, _, _⟩) hlt).trans (hc.out i 1 (by omega) (by omega))
      have c2 : wr.cell? ⟨b, off + i * 8 + 2, none⟩ = some (.int .i64 (S i 2)) := (hbx.cell (p := ⟨_, _, _⟩) hlt).trans (hc.out i 2 (by omega) (by omega))
      have c3 : wr.cell? ⟨b, off + i * 8 + 3, none⟩ = some (.int .i64 (S i 3)) := (hbx.cell (p := ⟨_, _, _⟩) hlt).trans (hc.out i 3 (by omega) (by omega))
      have c4 : wr.cell? ⟨b, off + i * 8 + 4, none⟩ = some (.int .i64 (S i 4)) := (hbx.cell (p := ⟨_, _, _⟩) hlt).trans (hc.out i 4 (by omega) (by omega))
      have c5 : wr.cell? ⟨b, off + i * 8 + 5, none⟩ = some (.int .i64 (S i 5)) := (hbx.cell (p := ⟨_, _, _⟩) hlt).trans (hc.out i 5 (by omega) (by omega))
      have c6 : wr.cell? ⟨b, off + i * 8 + 6, none⟩ = some (.int .i64 (S i 6)) := (hbx.cell (p := ⟨_, _, _⟩) hlt).trans (hc.out i 6 (by omega) (by omega))
      have c7 : wr.cell? ⟨b, off + i * 8 + 7, none⟩ = some (.int .i64 (S i 7)) := (hbx.cell (p := ⟨_, _, _⟩) hlt).trans (hc.out i 7 (by omega) (by omega))
      by_cases he : eOf S i = 0
      · have HF' : Aside (firstE S g (i + 1) = E) := by
          show _ = _
          rw [← HF.out]
          simp only [firstE]
          rw [if_pos he]
        have H0 : Aside (senE (S i 0) (S i 1) (S i 2) (S i 3) (S i 4) (S i 5) (S i 6) (S i 7) = 0) := he
        clear HF he
        go_wp2_with (go_at_call 61; refine (rsensor_any _ _ _ _ _ _ _ _ _).mono ?_; rw [H0.out]; rintro e w' ⟨rfl, rfl⟩)
        go_roundg g
        case measure => omega
        case rel =>
          refine ⟨i + 1, by omega, by first | rfl | go_num, ?_, HF'⟩
          go_grown
      · have hne : (eOf S i != 0) = true := by rw [bne_iff_ne]; exact he
        have HF' : Aside (eOf S i = E) := by
          show _ = _
          rw [← HF.out]
          simp only [firstE]
          rw [if_neg he]
        have H0 : Aside (senE (S i 0) (S i 1) (S i 2) (S i 3) (S i 4) (S i 5) (S i 6) (S i 7) = eOf S i) := rfl
        clear HF he
        go_wp2_with (go_at_call 61; refine (rsensor_any _ _ _ _ _ _ _ _ _).mono ?_; rw [H0.out]; rintro e w' ⟨rfl, rfl⟩)
        go_ret
        rw [HF'.out]
        refine ⟨rfl, ?_⟩
        go_grown
end Go.Proofs.Ytngcfohmlppghaa
