/- The contracts of Late for all inputs, and of the least of the latest alarms of sensors, by the program. -/
import Derived.Test.YtngcfohmlppghaaKs
import Derived.Test.YtngcfohmlppghaaKd
import Derived.Test.YtngcfohmlppghaaKq
import Derived.Deep.DeepCutAuto
namespace Go.Proofs.Ytngcfohmlppghaa
open Go.RowKit

/-- What Late returns, for all inputs. -/
def lateE (c p d n s l m k r g : Int) : Int × Bool := if senE c p d n s l m k = 0 ∧ kickB r g = true ∧ (latestV c p d n s l m k r g).2 = true then ((latestV c p d n s l m k r g).1.2.2, true) else (0, false)
theorem senE_ok {c p d n s l m k : Int} (h : senE c p d n s l m k = 0) : (c = 1 ∨ c = 2) ∧ sensB p d n s l m k = true := by
  unfold senE at h
  by_cases hc : c = 1 ∨ c = 2
  · rw [if_pos hc] at h
    refine ⟨hc, ?_⟩
    by_cases hs : sensB p d n s l m k = true
    · exact hs
    · rw [if_neg hs] at h
      omega
  · rw [if_neg hc] at h
    omega

set_option maxHeartbeats 400000 in
theorem late_bad1 (c p d n s l m k r g : Int) (h : senE c p d n s l m k ≠ 0) (w : World) :
    Calls Try.prog 29 #[.agg (sv c p d n s l m k), .agg #[.int .i64 r, .int .i64 g]] w fun e w' => e = .returned (.tuple #[.int .i64 0, .bool false]) ∧ Below w.heap.size w w' := by
  have h0 := sensor_any c p d n s l m k
  obtain ⟨E, hE⟩ : ∃ E, E = senE c p d n s l m k := ⟨_, rfl⟩
  rw [← hE] at h0 h
  have H0 : Aside (∀ w : World, Calls Try.prog 57 #[.agg (sv c p d n s l m k)] w fun e w' => e = .returned (.int .i64 E) ∧ w.alloc (.cells (sv c p d n s l m k) 32) = w') := h0
  have hne : (E != 0) = true := by rw [bne_iff_ne]; exact h
  clear h h0 hE
  go_enter Try.func29, Try.ntmps29
  go_wp2_with (go_at_call 57; refine (H0.out _).mono ?_; rintro e w' ⟨rfl, rfl⟩)
  go_ret2
  exact ⟨rfl, by go_grown⟩
set_option maxHeartbeats 400000 in
theorem late_bad2 (c p d n s l m k r g : Int) (hc : c = 1 ∨ c = 2) (h : sensB p d n s l m k = true) (hk : kickB r g = false) (w : World) :
    Calls Try.prog 29 #[.agg (sv c p d n s l m k), .agg #[.int .i64 r, .int .i64 g]] w fun e w' => e = .returned (.tuple #[.int .i64 0, .bool false]) ∧ Below w.heap.size w w' := by
  go_enter Try.func29, Try.ntmps29
  go_wp2_with (first
    | (go_at_call 57; refine (sensor_ok1 _ _ _ _ _ _ _ _ hc h _).mono ?_; rintro e w' ⟨rfl, rfl⟩)
    | (go_at_call 58; refine (kick_no _ _ hk _).mono ?_; rintro e w' ⟨rfl, rfl⟩))
  go_ret2
  exact ⟨rfl, by go_grown⟩
theorem late_all (c p d n s l m k r g : Int) (w : World) :
    Calls Try.prog 29 #[.agg (sv c p d n s l m k), .agg #[.int .i64 r, .int .i64 g]] w fun e w' => e = .returned (.tuple #[.int .i64 (lateE c p d n s l m k r g).1, .bool (lateE c p d n s l m k r g).2]) ∧ Below w.heap.size w w' := by
  unfold lateE
  by_cases h : senE c p d n s l m k = 0
  · obtain ⟨hc, hs⟩ := senE_ok h
    cases hk : kickB r g
    · rw [if_neg (by simp)]
      exact late_bad2 c p d n s l m k r g hc hs hk w
    · cases hb : (latestV c p d n s l m k r g).2
      · rw [if_neg (by simp)]
        exact late_no c p d n s l m k r g hc hs hk hb w
      · rw [if_pos ⟨h, rfl, rfl⟩]
        exact late_yes c p d n s l m k r g hc hs hk hb w
  · rw [if_neg (fun e => h e.1)]
    exact late_bad1 c p d n s l m k r g h w

/-- The least of the latest alarms so far, and of the sensors from i on. -/
def laV (S : Nat → Nat → Int) (i : Nat) (r g : Int) : (Int × Int × Int) × Bool := latestV (S i 0) (S i 1) (S i 2) (S i 3) (S i 4) (S i 5) (S i 6) (S i 7) r g
def soonF (S : Nat → Nat → Int) (r g : Int) : Nat → Nat → Int → Int
  | 0, _, b => b
  | f + 1, i, b => soonF S r g f (i + 1) (if (laV S i r g).2 = true ∧ (b < 0 ∨ (laV S i r g).1.2.2 < b) then (laV S i r g).1.2.2 else b)
/-- What soonest returns. -/
def soonV (S : Nat → Nat → Int) (r g : Int) (len : Nat) : Int × Int := if soonF S r g len 0 (-1) < 0 then (0, 13) else (soonF S r g len 0 (-1), 0)
theorem firstE_ok {S : Nat → Nat → Int} : ∀ f i, firstE S f i = 0 → ∀ j, i ≤ j → j < i + f → eOf S j = 0 := by
  intro f
  induction f with
  | zero => intro i _ j h1 h2; omega
  | succ f ih =>
    intro i h j h1 h2
    simp only [firstE] at h
    by_cases he : eOf S i = 0
    · rw [if_pos he] at h
      by_cases hj : j = i
      · rw [hj]; exact he
      · exact ih (i + 1) h j (by omega) (by omega)
    · rw [if_neg he] at h
      exact (he h).elim
theorem sensE_ok {S : Nat → Nat → Int} {len : Nat} (h : sensE S len = 0) : 1 ≤ len ∧ len ≤ 4 ∧ ∀ j, j < len → eOf S j = 0 := by
  unfold sensE at h
  by_cases h0 : len = 0
  · rw [if_pos h0] at h; omega
  rw [if_neg h0] at h
  by_cases h4 : 4 < len
  · rw [if_pos h4] at h; omega
  rw [if_neg h4] at h
  exact ⟨by omega, by omega, fun j hj => firstE_ok len 0 h j (by omega) (by omega)⟩

set_option maxRecDepth 100000 in
set_option maxHeartbeats 2000000 in
theorem soonest_any (a : Option Addr) (len cap : Nat) (S : Nat → Nat → Int) (r g : Int) (hk : kickB r g = true) (hs : sensE S len = 0) (w : World) (h : IsSens w a len cap S) :
    Calls Try.prog 70 #[.slice a len cap, .agg #[.int .i64 r, .int .i64 g]] w fun e w' => e = .returned (.tuple #[.int .i64 (soonV S r g len).1, .int .i64 (soonV S r g len).2]) ∧ Below w.heap.size w w' := by
  obtain ⟨hm, hrow, hcap⟩ := h
  obtain ⟨l1, l4, hv⟩ := sensE_ok hs
  obtain ⟨b, off, rfl, hlt, hc0⟩ := hrow (by omega)
  have hc : Aside (∀ i j, i < len → j < 8 → w.cell? ⟨b, off + i * 8 + j, none⟩ = some (.int .i64 (S i j))) := hc0
  have HV : Aside (∀ j, j < len → eOf S j = 0) := hv
  clear hrow hc0 hs hv
  have hl4 : (len : Int) ≤ 4 := by omega
  obtain ⟨E, hE⟩ : ∃ E, soonF S r g len 0 (-1) = E := ⟨_, rfl⟩
  have HE : Aside (soonF S r g len 0 (-1) = E) := hE
  have HS : Aside (soonV S r g len = if E < 0 then (0, 13) else (E, 0)) := by show _ = _; rw [← hE]; rfl
  clear hE
  go_enter Try.func70, Try.ntmps70
  go_wp2
  obtain ⟨W, hW⟩ : ∃ W, W = w.alloc (.cells #[.int .i64 r, .int .i64 g] 29) := ⟨_, rfl⟩
  have hbW : Below w.heap.size w W := by rw [hW]; go_grown
  have k0 : W.cell? ⟨w.heap.size, 0, none⟩ = some (.int .i64 r) := by rw [hW]; simp [go_sem]
  have k1 : W.cell? ⟨w.heap.size, 1, none⟩ = some (.int .i64 g) := by rw [hW]; simp [go_sem]
  have hsW : w.heap.size < W.heap.size := by rw [hW]; simp
  have hltW : b < W.heap.size := by omega
  have hcW : Aside (∀ i j, i < len → j < 8 → W.cell? ⟨b, off + i * 8 + j, none⟩ = some (.int .i64 (S i j))) := fun i j hi hj => (hbW.cell (p := ⟨_, _, _⟩) hlt).trans (hc.out i j hi hj)
  rw [← hW]
  clear hW hc
  go_loopg [6, 13] len (fun f vb vi wr => ∃ (i : Nat) (best : Int), i + f = len ∧ vb = .int .i64 best ∧ vi = .int .i64 i ∧ Below W.heap.size W wr ∧ Aside (soonF S r g f i best = E))
  case atStart => exact ⟨0, -1, by omega, rfl, rfl, Below.refl _ _, HE.out⟩
  case round =>
    obtain ⟨i, best, hi, rfl, rfl, hbx, HF⟩ := hrel
    have hsz := hbx.size
    cases gk with
    | zero =>
      have hil : ¬ (i : Int) < (len : Int) := by omega
      have HZ : Aside (best = E) := HF
      clear HF
      by_cases hz : best < 0
      · go_wp2
        go_ret2
        rw [HS.out, if_pos (by rw [← HZ.out]; exact hz)]
        exact ⟨rfl, hbW.trans (hbx.mono (by omega))⟩
      · have HN : Aside (¬ best < 0) := hz
        go_wp2
        go_ret2
        rw [HS.out, if_neg (by rw [← HZ.out]; have := HN.out; omega), ← HZ.out]
        exact ⟨rfl, hbW.trans (hbx.mono (by omega))⟩
    | succ f =>
      have hil : (i : Int) < (len : Int) := by omega
      have hv := HV.out i (by omega)
      obtain ⟨hc1, hc2⟩ := senE_ok hv
      have hl := latest_any _ _ _ _ _ _ _ _ r g (fit_of (c := S i 0) hc2 hk)
      obtain ⟨⟨⟨x1, x2, x3⟩, x4⟩, hX⟩ : ∃ z, z = laV S i r g := ⟨_, rfl⟩
      have HL : Aside (∀ w : World, Calls Try.prog 65 #[.agg (sv (S i 0) (S i 1) (S i 2) (S i 3) (S i 4) (S i 5) (S i 6) (S i 7)), .agg #[.int .i64 r, .int .i64 g]] w fun e w' => e = .returned (.tuple #[.agg #[.int .i64 x1, .int .i64 x2, .int .i64 x3], .bool x4]) ∧ Below w.heap.size w w') := by
        intro w
        have := hl w
        rw [show latestV (S i 0) (S i 1) (S i 2) (S i 3) (S i 4) (S i 5) (S i 6) (S i 7) r g = ((x1, x2, x3), x4) from hX.symm] at this
        exact this
      have HF' : Aside (soonF S r g f (i + 1) (if x4 = true ∧ (best < 0 ∨ x3 < best) then x3 else best) = E) := by
        show _ = _
        rw [← HF.out]
        simp only [soonF, ← hX]
      clear HF hl hX hv hc1 hc2
      have c0 : wr.cell? ⟨b, off + i * 8, none⟩ = some (.int .i64 (S i 0)) := (hbx.cell (p := ⟨_, _, _⟩) hltW).trans (hcW.out i 0 (by omega) (by omega))
      have c1 : wr.cell? ⟨b, off + i * 8 + 1, none⟩ = some (.int .i64 (S i 1)) := (hbx.cell (p := ⟨_, _, _⟩) hltW).trans (hcW.out i 1 (by omega) (by omega))
      have c2 : wr.cell? ⟨b, off + i * 8 + 2, none⟩ = some (.int .i64 (S i 2)) := (hbx.cell (p := ⟨_, _, _⟩) hltW).trans (hcW.out i 2 (by omega) (by omega))
      have c3 : wr.cell? ⟨b, off + i * 8 + 3, none⟩ = some (.int .i64 (S i 3)) := (hbx.cell (p := ⟨_, _, _⟩) hltW).trans (hcW.out i 3 (by omega) (by omega))
      have c4 : wr.cell? ⟨b, off + i * 8 + 4, none⟩ = some (.int .i64 (S i 4)) := (hbx.cell (p := ⟨_, _, _⟩) hltW).trans (hcW.out i 4 (by omega) (by omega))
      have c5 : wr.cell? ⟨b, off + i * 8 + 5, none⟩ = some (.int .i64 (S i 5)) := (hbx.cell (p := ⟨_, _, _⟩) hltW).trans (hcW.out i 5 (by omega) (by omega))
      have c6 : wr.cell? ⟨b, off + i * 8 + 6, none⟩ = some (.int .i64 (S i 6)) := (hbx.cell (p := ⟨_, _, _⟩) hltW).trans (hcW.out i 6 (by omega) (by omega))
      have c7 : wr.cell? ⟨b, off + i * 8 + 7, none⟩ = some (.int .i64 (S i 7)) := (hbx.cell (p := ⟨_, _, _⟩) hltW).trans (hcW.out i 7 (by omega) (by omega))
      have q0 : wr.cell? ⟨w.heap.size, 0, none⟩ = some (.int .i64 r) := (hbx.cell (p := ⟨_, _, _⟩) hsW).trans k0
      have q1 : wr.cell? ⟨w.heap.size, 1, none⟩ = some (.int .i64 g) := (hbx.cell (p := ⟨_, _, _⟩) hsW).trans k1
      have hsr : w.heap.size < wr.heap.size := by omega
      have hsn : w.heap.size ≠ wr.heap.size := by omega
      go_wp2_with fail
      refine (HL.out _).mono ?_
      rintro e w1 ⟨rfl, hb1⟩
      have hb2 : Below W.heap.size W w1 := hbx.trans ((bel_trans (by go_grown) hb1).mono (by omega))
      clear q0 q1 c0 c1 c2 c3 c4 c5 c6 c7 hb1
      cases x4
      · have HF2 : Aside (soonF S r g f (i + 1) best = E) := by simpa [Aside] using HF'
        clear HF'
        go_wp2
        go_roundg f
        case measure => omega
        case rel =>
          refine ⟨i + 1, best, by omega, rfl, by first | rfl | go_num, ?_, HF2⟩
          exact hb2.alloc hb2.size _
      · by_cases hz : best < 0
        · have HF2 : Aside (soonF S r g f (i + 1) x3 = E) := by simpa [Aside, hz] using HF'
          clear HF'
          go_wp2
          go_roundg f
          case measure => omega
          case rel =>
            refine ⟨i + 1, x3, by omega, rfl, by first | rfl | go_num, ?_, HF2⟩
            exact hb2.alloc hb2.size _
        · by_cases hy : x3 < best
          · have HF2 : Aside (soonF S r g f (i + 1) x3 = E) := by simpa [Aside, hy] using HF'
            clear HF'
            go_wp2
            go_roundg f
            case measure => omega
            case rel =>
              refine ⟨i + 1, x3, by omega, rfl, by first | rfl | go_num, ?_, HF2⟩
              exact hb2.alloc hb2.size _
          · have HF2 : Aside (soonF S r g f (i + 1) best = E) := by
              have h := HF'.out
              rw [if_neg (by omega)] at h
              exact h
            clear HF'
            go_wp2
            go_roundg f
            case measure => omega
            case rel =>
              refine ⟨i + 1, best, by omega, rfl, by first | rfl | go_num, ?_, HF2⟩
              exact hb2.alloc hb2.size _

/-- What Latest returns. -/
def latE (S : Nat → Nat → Int) (len : Nat) (a b c d : Int) : Int × Int := if sensE S len ≠ 0 then (0, sensE S len) else if kicksB a b c d = false then (0, 2) else soonV S a c len
/-- What Caught returns. -/
def caughtE (S : Nat → Nat → Int) (len : Nat) (r g : Int) : Int × Int × Int := if sensE S len ≠ 0 then (0, 0, sensE S len) else if kickB r g = false then (0, 0, 2) else if (soonV S r g len).2 ≠ 0 then (0, 0, (soonV S r g len).2) else ((soonV S r g len).1, gainV r g (soonV S r g len).1, 0)

set_option maxHeartbeats 1000000 in
theorem latest_bad (a : Option Addr) (len cap : Nat) (S : Nat → Nat → Int) (x0 x1 x2 x3 : Int) (hs : sensE S len ≠ 0) (w : World) (h : IsSens w a len cap S) :
    Calls Try.prog 33 #[.slice a len cap, .agg (kv x0 x1 x2 x3)] w fun e w' => e = .returned (.tuple #[.int .i64 0, .int .i64 (sensE S len)]) ∧ Below w.heap.size w w' := by
  have H : Aside (IsSens w a len cap S) := h
  obtain ⟨E, hE⟩ : ∃ E, E = sensE S len := ⟨_, rfl⟩
  have HE : Aside (E = sensE S len) := hE
  have hne : (E != 0) = true := by rw [bne_iff_ne, hE]; exact hs
  rw [← hE]
  clear hs h hE
  go_enter Try.func33, Try.ntmps33
  go_wp2_with (go_at_call 49; refine (sensors_any a len cap S _ (H.out.kept (by go_grown))).mono ?_; rw [← HE.out]; rintro e w1 ⟨rfl, hb1⟩)
  go_ret2
  exact ⟨rfl, bel_trans (by go_grown) hb1⟩
set_option maxHeartbeats 1000000 in
theorem latest_bad2 (a : Option Addr) (len cap : Nat) (S : Nat → Nat → Int) (x0 x1 x2 x3 : Int) (hs : sensE S len = 0) (hk : kicksB x0 x1 x2 x3 = false) (w : World) (h : IsSens w a len cap S) :
    Calls Try.prog 33 #[.slice a len cap, .agg (kv x0 x1 x2 x3)] w fun e w' => e = .returned (.tuple #[.int .i64 0, .int .i64 2]) ∧ Below w.heap.size w w' := by
  have H : Aside (IsSens w a len cap S) := h
  have HE : Aside (sensE S len = 0) := hs
  have HK : Aside (kicksB x0 x1 x2 x3 = false) := hk
  clear hs h hk
  go_enter Try.func33, Try.ntmps33
  go_wp2_with fail
  refine (sensors_any a len cap S _ (H.out.kept (by go_grown))).mono ?_
  rw [HE.out]
  rintro e w1 ⟨rfl, hb1⟩
  have hb1' := hb1; obtain ⟨hc1, -⟩ := bcell hb1; simp only [World.size_alloc] at hc1; have hs1 : w.heap.size < w1.heap.size := Nat.lt_of_lt_of_le (by simp) hb1.size; have q0 : w1.cell? ⟨w.heap.size, 0, none⟩ = some (.int .i64 x0) := (hc1 _ _ (by omega)).trans (by first | exact q0 | simp [go_sem]); have q1 : w1.cell? ⟨w.heap.size, 1, none⟩ = some (.int .i64 x1) := (hc1 _ _ (by omega)).trans (by first | exact q1 | simp [go_sem]); have q2 : w1.cell? ⟨w.heap.size, 2, none⟩ = some (.int .i64 x2) := (hc1 _ _ (by omega)).trans (by first | exact q2 | simp [go_sem]); have q3 : w1.cell? ⟨w.heap.size, 3, none⟩ = some (.int .i64 x3) := (hc1 _ _ (by omega)).trans (by first | exact q3 | simp [go_sem]); clear hc1 hb1'
  go_wp2_with fail
  refine (kicks_no x0 x1 x2 x3 HK.out _).mono ?_
  rintro e w2 ⟨rfl, hb2⟩
  go_wp2_with fail
  go_ret2
  exact ⟨rfl, bel_trans (bel_trans (by go_grown) hb1) hb2⟩
set_option maxHeartbeats 1000000 in
theorem latest_ok (a : Option Addr) (len cap : Nat) (S : Nat → Nat → Int) (x0 x1 x2 x3 : Int) (hs : sensE S len = 0) (hk : kicksB x0 x1 x2 x3 = true) (w : World) (h : IsSens w a len cap S) :
    Calls Try.prog 33 #[.slice a len cap, .agg (kv x0 x1 x2 x3)] w fun e w' => e = .returned (.tuple #[.int .i64 (soonV S x0 x2 len).1, .int .i64 (soonV S x0 x2 len).2]) ∧ Below w.heap.size w w' := by
  have H : Aside (IsSens w a len cap S) := h
  have HE : Aside (sensE S len = 0) := hs
  have HK : Aside (kicksB x0 x1 x2 x3 = true) := hk
  have HK2 : Aside (kickB x0 x2 = true) := by simp [kicksB] at hk; exact hk.2.2.1
  clear hs h hk
  go_enter Try.func33, Try.ntmps33
  go_wp2_with fail
  refine (sensors_any a len cap S _ (H.out.kept (by go_grown))).mono ?_
  rw [HE.out]
  rintro e w1 ⟨rfl, hb1⟩
  have hb1' := hb1; obtain ⟨hc1, -⟩ := bcell hb1; simp only [World.size_alloc] at hc1; have hs1 : w.heap.size < w1.heap.size := Nat.lt_of_lt_of_le (by simp) hb1.size; have q0 : w1.cell? ⟨w.heap.size, 0, none⟩ = some (.int .i64 x0) := (hc1 _ _ (by omega)).trans (by first | exact q0 | simp [go_sem]); have q1 : w1.cell? ⟨w.heap.size, 1, none⟩ = some (.int .i64 x1) := (hc1 _ _ (by omega)).trans (by first | exact q1 | simp [go_sem]); have q2 : w1.cell? ⟨w.heap.size, 2, none⟩ = some (.int .i64 x2) := (hc1 _ _ (by omega)).trans (by first | exact q2 | simp [go_sem]); have q3 : w1.cell? ⟨w.heap.size, 3, none⟩ = some (.int .i64 x3) := (hc1 _ _ (by omega)).trans (by first | exact q3 | simp [go_sem]); clear hc1 hb1'
  have b1 : Below w.heap.size w w1 := bel_trans (by go_grown) hb1
  clear hb1
  go_wp2_with fail
  refine (kicks_ok x0 x1 x2 x3 HK.out _).mono ?_
  rintro e w2 ⟨rfl, hb2⟩
  have hb2' := hb2; obtain ⟨hc2, -⟩ := bcell hb2;  have hs2 : w.heap.size < w2.heap.size := Nat.lt_of_lt_of_le hs1 hb2.size; have q0 : w2.cell? ⟨w.heap.size, 0, none⟩ = some (.int .i64 x0) := (hc2 _ _ (by omega)).trans (by first | exact q0 | simp [go_sem]); have q1 : w2.cell? ⟨w.heap.size, 1, none⟩ = some (.int .i64 x1) := (hc2 _ _ (by omega)).trans (by first | exact q1 | simp [go_sem]); have q2 : w2.cell? ⟨w.heap.size, 2, none⟩ = some (.int .i64 x2) := (hc2 _ _ (by omega)).trans (by first | exact q2 | simp [go_sem]); have q3 : w2.cell? ⟨w.heap.size, 3, none⟩ = some (.int .i64 x3) := (hc2 _ _ (by omega)).trans (by first | exact q3 | simp [go_sem]); clear hc2 hb2'
  have b2 := bel_trans b1 hb2
  clear b1 hb2
  go_wp2_with fail
  refine (least_any x0 x1 x2 x3 _).mono ?_
  rintro e w3 ⟨rfl, hb3⟩
  have b3 := bel_trans b2 hb3
  clear b2 hb3
  go_wp2_with fail
  refine (soonest_any a len cap S x0 x2 HK2.out HE.out _ (H.out.kept b3)).mono ?_
  rintro e w4 ⟨rfl, hb4⟩
  go_wp2_with fail
  go_ret2
  exact ⟨rfl, bel_trans b3 hb4⟩
/-- Latest, for all inputs. -/
theorem latest_all (a : Option Addr) (len cap : Nat) (S : Nat → Nat → Int) (x0 x1 x2 x3 : Int) (w : World) (h : IsSens w a len cap S) :
    Calls Try.prog 33 #[.slice a len cap, .agg (kv x0 x1 x2 x3)] w fun e w' => e = .returned (.tuple #[.int .i64 (latE S len x0 x1 x2 x3).1, .int .i64 (latE S len x0 x1 x2 x3).2]) ∧ Below w.heap.size w w' := by
  unfold latE
  by_cases hs : sensE S len = 0
  · rw [if_neg (by simp [hs])]
    cases hk : kicksB x0 x1 x2 x3
    · rw [if_pos rfl]
      exact latest_bad2 a len cap S x0 x1 x2 x3 hs hk w h
    · rw [if_neg (by simp)]
      exact latest_ok a len cap S x0 x1 x2 x3 hs hk w h
  · rw [if_pos hs]
    exact latest_bad a len cap S x0 x1 x2 x3 hs w h

set_option maxHeartbeats 1000000 in
theorem caught_bad (a : Option Addr) (len cap : Nat) (S : Nat → Nat → Int) (r g : Int) (hs : sensE S len ≠ 0) (w : World) (h : IsSens w a len cap S) :
    Calls Try.prog 35 #[.slice a len cap, .agg #[.int .i64 r, .int .i64 g]] w fun e w' => e = .returned (.tuple #[.int .i64 0, .int .i64 0, .int .i64 (sensE S len)]) ∧ Below w.heap.size w w' := by
  have H : Aside (IsSens w a len cap S) := h
  obtain ⟨E, hE⟩ : ∃ E, E = sensE S len := ⟨_, rfl⟩
  have HE : Aside (E = sensE S len) := hE
  have hne : (E != 0) = true := by rw [bne_iff_ne, hE]; exact hs
  rw [← hE]
  clear hs h hE
  go_enter Try.func35, Try.ntmps35
  go_wp2_with fail
  refine (sensors_any a len cap S _ (H.out.kept (by go_grown))).mono ?_
  rw [← HE.out]
  rintro e w1 ⟨rfl, hb1⟩
  go_wp2_with fail
  refine bodyPost_ret (v := .tuple #[.int .i64 0, .int .i64 0, .int .i64 E]) (by simp [results, Try.results35, go_sem]) rfl ⟨rfl, bel_trans (by go_grown) hb1⟩
set_option maxHeartbeats 1000000 in
theorem caught_bad2 (a : Option Addr) (len cap : Nat) (S : Nat → Nat → Int) (r g : Int) (hs : sensE S len = 0) (hk : kickB r g = false) (w : World) (h : IsSens w a len cap S) :
    Calls Try.prog 35 #[.slice a len cap, .agg #[.int .i64 r, .int .i64 g]] w fun e w' => e = .returned (.tuple #[.int .i64 0, .int .i64 0, .int .i64 2]) ∧ Below w.heap.size w w' := by
  have H : Aside (IsSens w a len cap S) := h
  have HE : Aside (sensE S len = 0) := hs
  clear hs h
  go_enter Try.func35, Try.ntmps35
  go_wp2_with fail
  refine (sensors_any a len cap S _ (H.out.kept (by go_grown))).mono ?_
  rw [HE.out]
  rintro e w1 ⟨rfl, hb1⟩
  have hb1' := hb1; obtain ⟨hc1, -⟩ := bcell hb1; simp only [World.size_alloc] at hc1; have hs1 : w.heap.size < w1.heap.size := Nat.lt_of_lt_of_le (by simp) hb1.size; have q0 : w1.cell? ⟨w.heap.size, 0, none⟩ = some (.int .i64 r) := (hc1 _ _ (by omega)).trans (by first | exact q0 | simp [go_sem]); have q1 : w1.cell? ⟨w.heap.size, 1, none⟩ = some (.int .i64 g) := (hc1 _ _ (by omega)).trans (by first | exact q1 | simp [go_sem]); clear hc1 hb1'
  go_wp2_with (go_at_call 58; refine (kick_no r g hk _).mono ?_; rintro e w2 ⟨rfl, rfl⟩)
  refine bodyPost_ret (v := .tuple #[.int .i64 0, .int .i64 0, .int .i64 2]) (by simp [results, Try.results35, go_sem]) rfl ⟨rfl, ?_⟩
  exact (bel_trans (by go_grown) hb1).alloc (Nat.le_of_lt hs1) _
theorem laV_bd (S : Nat → Nat → Int) (j : Nat) (r g : Int) (h : (laV S j r g).2 = true) : (laV S j r g).1.2.2 ≤ 10000 := by
  unfold laV latestV at *
  cases hx : latestO (S j 0) (S j 1) (S j 2) (S j 3) (S j 4) (S j 5) (S j 6) (S j 7) r g with
  | none => rw [hx] at h; simp at h
  | some x => rw [hx] at h; simpa using h
theorem soonF_bd (S : Nat → Nat → Int) (r g : Int) : ∀ f i b, b ≤ 10000 → soonF S r g f i b ≤ 10000 := by
  intro f
  induction f with
  | zero => intro i b h; exact h
  | succ f ih =>
    intro i b h
    simp only [soonF]
    refine ih _ _ ?_
    split
    · rename_i hh
      exact laV_bd S i r g hh.1
    · exact h
theorem soonV_bd (S : Nat → Nat → Int) (r g : Int) (len : Nat) : (soonV S r g len).1 ≤ 10000 := by
  unfold soonV
  split
  · simp
  · exact soonF_bd S r g len 0 (-1) (by omega)
set_option maxHeartbeats 1000000 in
theorem caught_late (a : Option Addr) (len cap : Nat) (S : Nat → Nat → Int) (r g : Int) (hs : sensE S len = 0) (hk : kickB r g = true) (hl : (soonV S r g len).2 ≠ 0) (w : World) (h : IsSens w a len cap S) :
    Calls Try.prog 35 #[.slice a len cap, .agg #[.int .i64 r, .int .i64 g]] w fun e w' => e = .returned (.tuple #[.int .i64 0, .int .i64 0, .int .i64 (soonV S r g len).2]) ∧ Below w.heap.size w w' := by
  have H : Aside (IsSens w a len cap S) := h
  have HE : Aside (sensE S len = 0) := hs
  have HS := fun (w : World) (h : IsSens w a len cap S) => soonest_any a len cap S r g hk hs w h
  obtain ⟨⟨x, y⟩, hX⟩ : ∃ z, z = soonV S r g len := ⟨_, rfl⟩
  rw [← hX] at HS hl ⊢
  have HS' : Aside (∀ (w : World) (h : IsSens w a len cap S), Calls Try.prog 70 #[.slice a len cap, .agg #[.int .i64 r, .int .i64 g]] w fun e w' => e = .returned (.tuple #[.int .i64 x, .int .i64 y]) ∧ Below w.heap.size w w') := HS
  have hne : (y != 0) = true := by rw [bne_iff_ne]; exact hl
  clear hs h HS hX hl
  go_enter Try.func35, Try.ntmps35
  go_wp2_with fail
  refine (sensors_any a len cap S _ (H.out.kept (by go_grown))).mono ?_
  rw [HE.out]
  rintro e w1 ⟨rfl, hb1⟩
  have hb1' := hb1; obtain ⟨hc1, -⟩ := bcell hb1; simp only [World.size_alloc] at hc1; have hs1 : w.heap.size < w1.heap.size := Nat.lt_of_lt_of_le (by simp) hb1.size; have q0 : w1.cell? ⟨w.heap.size, 0, none⟩ = some (.int .i64 r) := (hc1 _ _ (by omega)).trans (by first | exact q0 | simp [go_sem]); have q1 : w1.cell? ⟨w.heap.size, 1, none⟩ = some (.int .i64 g) := (hc1 _ _ (by omega)).trans (by first | exact q1 | simp [go_sem]); clear hc1 hb1'
  have b1 : Below w.heap.size w w1 := bel_trans (by go_grown) hb1
  clear hb1
  go_wp2_with (go_at_call 58; refine (kick_ok r g hk _).mono ?_; rintro e w2 ⟨rfl, rfl⟩)
  have b2 : Below w.heap.size w (w1.alloc (.cells #[.int .i64 r, .int .i64 g] 29)) := b1.alloc b1.size _
  refine (HS'.out _ (H.out.kept b2)).mono ?_
  rintro e w3 ⟨rfl, hb3⟩
  go_wp2_with fail
  refine bodyPost_ret (v := .tuple #[.int .i64 0, .int .i64 0, .int .i64 y]) (by simp [results, Try.results35, go_sem]) rfl ⟨rfl, bel_trans b2 hb3⟩
set_option maxHeartbeats 1000000 in
theorem caught_ok (a : Option Addr) (len cap : Nat) (S : Nat → Nat → Int) (r g : Int) (hs : sensE S len = 0) (hk : kickB r g = true) (hl : (soonV S r g len).2 = 0) (w : World) (h : IsSens w a len cap S) :
    Calls Try.prog 35 #[.slice a len cap, .agg #[.int .i64 r, .int .i64 g]] w fun e w' => e = .returned (.tuple #[.int .i64 (soonV S r g len).1, .int .i64 (gainV r g (soonV S r g len).1), .int .i64 0]) ∧ Below w.heap.size w w' := by
  have H : Aside (IsSens w a len cap S) := h
  have HE : Aside (sensE S len = 0) := hs
  obtain ⟨hr, hg⟩ := kickB_bd hk
  have hx := soonV_bd S r g len
  have HS := fun (w : World) (h : IsSens w a len cap S) => soonest_any a len cap S r g hk hs w h
  obtain ⟨⟨x, y⟩, hX⟩ : ∃ z, z = soonV S r g len := ⟨_, rfl⟩
  rw [← hX] at HS hl hx ⊢
  simp only at hl hx
  subst hl
  have HS' : Aside (∀ (w : World) (h : IsSens w a len cap S), Calls Try.prog 70 #[.slice a len cap, .agg #[.int .i64 r, .int .i64 g]] w fun e w' => e = .returned (.tuple #[.int .i64 x, .int .i64 0]) ∧ Below w.heap.size w w') := HS
  have hl : True := trivial
  clear hs h HS hX hl
  go_enter Try.func35, Try.ntmps35
  go_wp2_with fail
  refine (sensors_any a len cap S _ (H.out.kept (by go_grown))).mono ?_
  rw [HE.out]
  rintro e w1 ⟨rfl, hb1⟩
  have hb1' := hb1; obtain ⟨hc1, -⟩ := bcell hb1; simp only [World.size_alloc] at hc1; have hs1 : w.heap.size < w1.heap.size := Nat.lt_of_lt_of_le (by simp) hb1.size; have q0 : w1.cell? ⟨w.heap.size, 0, none⟩ = some (.int .i64 r) := (hc1 _ _ (by omega)).trans (by first | exact q0 | simp [go_sem]); have q1 : w1.cell? ⟨w.heap.size, 1, none⟩ = some (.int .i64 g) := (hc1 _ _ (by omega)).trans (by first | exact q1 | simp [go_sem]); clear hc1 hb1'
  have b1 : Below w.heap.size w w1 := bel_trans (by go_grown) hb1
  clear hb1
  go_wp2_with (go_at_call 58; refine (kick_ok r g hk _).mono ?_; rintro e w2 ⟨rfl, rfl⟩)
  have b2 : Below w.heap.size w (w1.alloc (.cells #[.int .i64 r, .int .i64 g] 29)) := b1.alloc b1.size _
  refine (HS'.out _ (H.out.kept b2)).mono ?_
  rintro e w3 ⟨rfl, hb3⟩
  have hc3 := (bcell hb3).1
  simp only [World.size_alloc] at hc3
  have q0 : w3.cell? ⟨w.heap.size, 0, none⟩ = some (.int .i64 r) := (hc3 _ _ (by omega)).trans (by simp [go_sem, World.cell?_alloc_past, hs1, q0])
  have q1 : w3.cell? ⟨w.heap.size, 1, none⟩ = some (.int .i64 g) := (hc3 _ _ (by omega)).trans (by simp [go_sem, World.cell?_alloc_past, hs1, q1])
  clear hc3
  go_wp2_with fail
  refine (cgain_any r g x hr hg (by omega) _).mono ?_
  rintro e w4 ⟨rfl, rfl⟩
  go_wp2_with fail
  refine bodyPost_ret (v := .tuple #[.int .i64 x, .int .i64 (gainV r g x), .int .i64 0]) (by simp [results, Try.results35, go_sem]) rfl ⟨rfl, ?_⟩
  exact (bel_trans b2 hb3).alloc (bel_trans b2 hb3).size _
/-- Caught, for all inputs. -/
theorem caught_all (a : Option Addr) (len cap : Nat) (S : Nat → Nat → Int) (r g : Int) (w : World) (h : IsSens w a len cap S) :
    Calls Try.prog 35 #[.slice a len cap, .agg #[.int .i64 r, .int .i64 g]] w fun e w' => e = .returned (.tuple #[.int .i64 (caughtE S len r g).1, .int .i64 (caughtE S len r g).2.1, .int .i64 (caughtE S len r g).2.2]) ∧ Below w.heap.size w w' := by
  unfold caughtE
  by_cases hs : sensE S len = 0
  · rw [if_neg (by simp [hs])]
    cases hk : kickB r g
    · rw [if_pos rfl]
      exact caught_bad2 a len cap S r g hs hk w h
    · rw [if_neg (by simp)]
      by_cases hl : (soonV S r g len).2 = 0
      · rw [if_neg (by simp [hl])]
        exact caught_ok a len cap S r g hs hk hl w h
      · rw [if_pos hl]
        exact caught_late a len cap S r g hs hk hl w h
  · rw [if_pos hs]
    exact caught_bad a len cap S r g hs w h
end Go.Proofs.Ytngcfohmlppghaa
