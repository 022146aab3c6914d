/- The examples that every statement of layer 10 asks for hold. -/
import Derived.Test.YtgohbjlfgiohiaaHj
namespace Go.Proofs.Ytgohbjlfgiohiaa
open Go.RowKit

def runV (k : Nat) : Int := if k = 0 then 1 else if k = 1 then 0 else 2
theorem turned_safe {s : Nat → Bool} (h : IsSafe 3 exLost exLen (exMv 0) s) : s 0 = true ∧ s 1 = true ∧ s 2 = false := by
  have hp : Post 3 exLost exLen (exMv 0) (fun i => decide (i < 2)) := by
    intro i hi ht
    have hi2 : i < 2 := by simpa using ht
    match i, hi2 with
    | 0, _ => exact ⟨by simp [exLost], 0, by simp [exLen], by simp [exMv]⟩
    | 1, _ => exact ⟨by simp [exLost], 0, by simp [exLen], by simp [exMv]⟩
  refine ⟨h.big _ hp 0 (by omega) (by simp), h.big _ hp 1 (by omega) (by simp), ?_⟩
  cases e : s 2
  · rfl
  · have := (h.post 2 (by omega) e).1
    simp [exLost] at this
theorem run_last {s : Nat → Bool} (h : s 0 = true ∧ s 1 = true ∧ s 2 = false) : lastC s runV 4 = 1 := by
  obtain ⟨h0, h1, h2⟩ := h
  simp [lastC, runV, h0, h2]
set_option maxHeartbeats 4000000 in
theorem awake10 (w : World) :
    Calls Try.prog 8 #[] w fun e w' => e = .returned (.bool true) ∧ Below w.heap.size w w' := by
  go_enter Try.func8, Try.ntmps8
  go_wp2_with fail
  refine (turned_is w).mono ?_
  rintro e w1 ⟨lb, mb, P, rfl, hI, hb1⟩
  have HI : Aside (BIs w1 lb 0 mb 0 3 exLost P (fun _ => 0) exLen exLen (exMv 0)) := hI
  clear hI
  go_wp2_with fail
  obtain ⟨W, hW⟩ : ∃ W, W = w1.alloc (.cells #[.int .i64 1, .int .i64 0, .int .i64 2, .int .i64 2] 3) := ⟨_, rfl⟩
  have b1 : Below w1.heap.size w1 W := by rw [hW]; go_grown
  have hR : IsL W (some ⟨w1.heap.size, 0, none⟩) 4 runV := by
    refine .inr ⟨_, _, rfl, fun k hk => ?_⟩
    rw [hW]
    match k, hk with
    | 0, _ => simp [go_sem, runV]
    | 1, _ => simp [go_sem, runV]
    | 2, _ => simp [go_sem, runV]
    | 3, _ => simp [go_sem, runV]
  have hb2 := below_next hb1 b1
  rw [← hW]
  clear hW
  refine (chance_ok (rv := runV) (ex_ok (t := 0) (by omega) (by omega)) _ _ _ (by omega) (fun k _ => by unfold runV; split; omega; split <;> omega) (fun k _ => by unfold runV; split; omega; split <;> omega) W (HI.out.below b1) hR).mono ?_
  rintro e w2 ⟨s, hs, rfl, hb3⟩
  have e1 : chI s runV 4 = 1 := by rw [chI, run_last (turned_safe hs)]; rfl
  have e2 : chB s runV 4 = true := by rw [chB, run_last (turned_safe hs)]; rfl
  rw [e1, e2]
  have hb4 := below_next hb2 hb3
  clear e1 e2 hs hb3 hb2 b1 hb1 HI hR
  go_wp2_with fail
  refine (seas_is _).mono ?_
  rintro e w3 ⟨rfl, hb5⟩
  have hb6 := below_next hb4 hb5
  go_wp2_with fail
  refine (staticSeas _).mono ?_
  rintro e w4 ⟨rfl, hb7⟩
  have hb8 := below_next hb6 hb7
  go_wp2_with fail
  refine (shown_is _).mono ?_
  rintro e w5 ⟨lb, mb, P, rfl, hI, hb9⟩
  have hb10 := below_next hb8 hb9
  have HI : Aside (BIs w5 lb 0 mb 0 3 exLost P (fun _ => 0) exLen exLen (exMv 2)) := hI
  clear hI
  go_wp2_with fail
  refine (checkBlow_ok (ex_ok (t := 2) (by omega) (by omega)) _ HI.out).mono ?_
  rintro e w6 ⟨rfl, hb11⟩
  have hb12 := below_next hb10 hb11
  go_wp2_with fail
  go_ret
  exact ⟨rfl, hb12⟩
end Go.Proofs.Ytgohbjlfgiohiaa
