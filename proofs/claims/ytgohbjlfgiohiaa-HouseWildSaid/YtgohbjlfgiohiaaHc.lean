/- The contract of CheckBlow at a valid blow-out. -/
import Derived.Test.YtgohbjlfgiohiaaHb
namespace Go.Proofs.Ytgohbjlfgiohiaa
open Go.RowKit

theorem noBad {r : Bool} {n L : Nat} {m : Nat → Int} (hr : r = true ↔ ∃ j, j < L ∧ (!isSt n (m j)) = true) (h0 : ∀ j, j < L → 0 ≤ m j) (h1 : ∀ j, j < L → m j < n) : r = false := by
  cases r
  · rfl
  · obtain ⟨j, hj, hx⟩ := hr.1 rfl
    simp [isSt, h0 j hj, h1 j hj] at hx
set_option maxHeartbeats 1000000 in
theorem checkBlow_ok {lb lo mb mo n lc mc : Nat} {lost : Nat → Bool} {P O C len : Nat → Nat} {mv : Nat → Nat → Int} (hv : Okb n len mv) (w : World) (h : BIs w lb lo mb mo n lost P O C len mv) :
    Calls Try.prog 11 #[.agg (bv lb lo mb mo n lc mc)] w fun e w' => e = .returned (.int .i64 0) ∧ Below w.heap.size w w' := by
  have hmf : ∀ (fn : Fn) (first cap : Array Value) (w : World), (Instr.makeFunc fn first cap).run Try.prog w = .ok (.func fn first cap) w := fun _ _ _ _ => rfl
  have HE : Aside (∀ (args : Array Value) (w : World), (callFunc 32 args).run Try.prog w = .ok (.enter 32 args) w) := fun args w => call_enter Try.func32 (by kernel_rfl) (by kernel_rfl) args w
  have n1 := hv.n1
  have n2 := hv.n2
  have q0 : ((n : Int) == 0) = false := by simp; omega
  have q1 : ¬ 64 < (n : Int) := by omega
  have HB : Aside (BIs w lb lo mb mo n lost P O C len mv) := h
  have HV : Aside (Okb n len mv) := hv
  clear h hv
  go_enter Try.func11, Try.ntmps11
  go_wp2_with fail
  obtain ⟨W, hW⟩ : ∃ W, W = w.alloc (.cells (bv lb lo mb mo n lc mc) 25) := ⟨_, rfl⟩
  have b0 : Below w.heap.size w W := by rw [hW]; go_grown
  have hsz : W.heap.size = w.heap.size + 1 := by rw [hW]; simp
  have c0 : W.cell? ⟨w.heap.size, 0, none⟩ = some (.slice (some ⟨lb, lo, none⟩) n lc) := by rw [hW]; simp [go_sem]
  have c1 : W.cell? ⟨w.heap.size, 1, none⟩ = some (.slice (some ⟨mb, mo, none⟩) n mc) := by rw [hW]; simp [go_sem]
  rw [← hW]
  have HC0 : Aside (W.cell? ⟨w.heap.size, 0, none⟩ = some (.slice (some ⟨lb, lo, none⟩) n lc)) := c0
  have HC1 : Aside (W.cell? ⟨w.heap.size, 1, none⟩ = some (.slice (some ⟨mb, mo, none⟩) n mc)) := c1
  clear hW c0 c1
  go_loopg [23] n (fun f v wr => ∃ k : Nat, v = .int .i64 k ∧ k + f = n ∧ Below W.heap.size W wr)
  case atStart => exact ⟨0, rfl, by omega, Below.refl _ _⟩
  case round =>
    obtain ⟨k, rfl, hk, hb⟩ := hrel
    by_cases hend : k < n
    · have hend' : (k : Int) < n := by omega
      obtain ⟨f, rfl⟩ : ∃ f, gk = f + 1 := ⟨gk - 1, by omega⟩
      have BW := (HB.out.below b0).below hb
      have cm := BW.moves k hend
      have l1 := HV.out.l1 k hend
      have l2 := HV.out.l2 k hend
      obtain ⟨L, hL⟩ : ∃ z, z = len k := ⟨_, rfl⟩
      have HL : Aside (L = len k) := hL
      have HW : Aside (BIs wr lb lo mb mo n lost P O C len mv) := BW
      rw [← hL] at cm l1 l2
      clear hL BW
      have d0 : wr.cell? ⟨w.heap.size, 0, none⟩ = some (.slice (some ⟨lb, lo, none⟩) n lc) := (hb.cell (p := ⟨_, _, _⟩) (lt_of_cell HC0.out)).trans HC0.out
      have d1 : wr.cell? ⟨w.heap.size, 1, none⟩ = some (.slice (some ⟨mb, mo, none⟩) n mc) := (hb.cell (p := ⟨_, _, _⟩) (lt_of_cell HC1.out)).trans HC1.out
      go_wp2_with (refine (containsFunc_any 32 HE.out (.pointer (some ⟨w.heap.size, 0, none⟩)) (fun j => !isSt n (mv k j)) (P k) (O k) L (C k) (mv k) wr (by omega) (fun j hj => HW.out.mv k j hend (by rw [← HL.out]; exact hj)) (fun j hj w2 hb2 => bad_any lb lo mb mo n lc mc (mv k j) w.heap.size w2 ((hb2.cell (p := ⟨_, _, _⟩) (lt_of_cell d0)).trans d0) ((hb2.cell (p := ⟨_, _, _⟩) (lt_of_cell d1)).trans d1))).mono ?_; rintro e w3 ⟨r, rfl, hb3, hr⟩; obtain rfl := noBad hr (fun j hj => HV.out.m0 k j hend (by rw [← HL.out]; exact hj)) (fun j hj => HV.out.m1 k j hend (by rw [← HL.out]; exact hj)))
      go_roundg f
      case measure => omega
      case rel => exact ⟨k + 1, by simp, by omega, below_next hb hb3⟩
    · have hend' : ¬ (k : Int) < n := by omega
      go_wp2_with fail
      go_ret
      exact ⟨rfl, below_next b0 hb⟩
end Go.Proofs.Ytgohbjlfgiohiaa
