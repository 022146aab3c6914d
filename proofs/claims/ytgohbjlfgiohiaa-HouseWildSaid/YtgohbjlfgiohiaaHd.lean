/- The examples' phase and its static pressure; the blow-outs of the examples. -/
import Derived.Test.YtgohbjlfgiohiaaHa
import Derived.Laws.Rows
namespace Go.Proofs.Ytgohbjlfgiohiaa
open Go.RowKit

/-- The phase of the examples. -/
abbrev phC : Array Value := #[.int .i64 0, .int .i64 0, .int .i64 0, .int .i64 3000, .int .i64 1000, .int .i64 9810, .int .i64 12000, .int .i64 5, .int .i64 4000, .int .i64 300, .int .i64 50, .int .i64 100, .int .i64 10, .int .i64 1, .slice none 0 0, .slice none 0 0, .slice none 0 0, .int .i64 0, .int .i64 0, .slice none 0 0, .slice none 0 0, .slice none 0 0, .int .i64 0, .int .i64 0, .int .i64 0, .int .i64 0, .int .i64 0, .slice none 0 0, .int .i64 0, .slice none 0 0, .int .i64 0, .int .i64 0, .int .i64 0, .int .i64 0, .int .i64 0, .int .i64 0, .int .i64 0, .slice none 0 0, .slice none 0 0]
/-- An empty phase. -/
abbrev ph0 : Array Value := #[.int .i64 0, .int .i64 0, .int .i64 0, .int .i64 0, .int .i64 0, .int .i64 0, .int .i64 0, .int .i64 0, .int .i64 0, .int .i64 0, .int .i64 0, .int .i64 0, .int .i64 0, .int .i64 0, .slice none 0 0, .slice none 0 0, .slice none 0 0, .int .i64 0, .int .i64 0, .slice none 0 0, .slice none 0 0, .slice none 0 0, .int .i64 0, .int .i64 0, .int .i64 0, .int .i64 0, .int .i64 0, .slice none 0 0, .int .i64 0, .slice none 0 0, .int .i64 0, .int .i64 0, .int .i64 0, .int .i64 0, .int .i64 0, .int .i64 0, .int .i64 0, .slice none 0 0, .slice none 0 0]
theorem below_setRow {B : Nat} {a w : World} (h : Below B a w) {g : Nat} (hg : B ≤ g) (cs : Array Value) : Below B a (w.setRow g cs) :=
  ⟨h.os, h.tape, h.output, by simpa using h.size, fun k hk => (setRow_other w g k cs (by omega)).trans (h.block k hk)⟩
set_option maxHeartbeats 4000000 in
theorem seas_is (w : World) :
    Calls Try.prog 25 #[] w fun e w' => e = .returned (.agg phC) ∧ Below w.heap.size w w' := by
  go_enter Try.func25, Try.ntmps25
  go_upto_region 1 with fail
  apply wp_region_lit
  refine wpList_build rfl 45 _ rfl (by kernel_rfl) ?_
  refine wpList_build rfl 66 _ rfl (by kernel_rfl) ?_
  refine wpList_store_row rfl 66 (.tmp 0) (.tmp 2) rfl w.heap.size phC rfl (by kernel_rfl) _ ph0 (heap_alloc_new _ _) (by kernel_rfl) rfl (by kernel_rfl) ?_
  apply wpList_nil
  apply_assumption
  go_step
  refine bodyPost_ret (v := .agg phC) (results_cell_row Try.results25 _ _ w.heap.size _ phC _ _ (by kernel_rfl) (setRow_heap _ _ _ _ _ _ (heap_alloc_new _ _)) Try.underlying66 rfl (by kernel_rfl)) (by kernel_rfl) ⟨rfl, below_setRow (by go_grown) (Nat.le_refl _) _⟩
set_option maxHeartbeats 4000000 in
theorem hasFluid_ph (w : World) :
    Calls Try.prog 42 #[.agg phC] w fun e w' => e = .returned (.bool true) ∧ Below w.heap.size w w' := by
  go_enter Try.func42, Try.ntmps42
  go_wp2_with (go_at_call 38; refine (within_any _ _ _ _).mono ?_; rintro e w' ⟨rfl, rfl⟩)
  go_ret
  exact ⟨rfl, by go_grown⟩
set_option maxHeartbeats 4000000 in
theorem static_ph (w : World) :
    Calls Try.prog 43 #[.agg phC, .int .i64 2000] w fun e w' => e = .returned (.int .i64 21810005) ∧ Below w.heap.size w w' := by
  go_enter Try.func43, Try.ntmps43
  go_wp2
  go_ret
  exact ⟨rfl, by go_grown⟩
set_option maxHeartbeats 4000000 in
theorem staticSeas (w : World) :
    Calls Try.prog 26 #[.agg phC, .int .i64 2000] w fun e w' => e = .returned (.int .i64 21810005) ∧ Below w.heap.size w w' := by
  go_enter Try.func26, Try.ntmps26
  go_upto_region 1 with fail
  apply wp_region_lit
  refine wpList_load_row rfl 66 (.tmp 2) rfl w.heap.size rfl _ phC _ _ (heap_alloc_new _ _) Try.underlying66 rfl (by kernel_rfl) ?_
  go_upto_region 3 with (first
    | (go_at_call 42; refine (hasFluid_ph _).mono ?_; rintro e w2 ⟨rfl, hb2⟩; have c3 : w2.cell? ⟨w.heap.size, 3, none⟩ = some (.int .i64 3000) := (hb2.cell (p := ⟨_, _, _⟩) (by simp)).trans (by rw [cell_of_row _ _ _ _ _ _ (heap_alloc_new _ _)]; rfl); have hg := (hb2.block w.heap.size (by simp)).trans (heap_alloc_new _ _); have hbw : Below w.heap.size w w2 := ((Below.refl _ _).alloc (Nat.le_refl _) _).trans (hb2.mono (by simp)))
    | (go_at_call 38; refine (within_any _ _ _ _).mono ?_; rintro e w3 ⟨rfl, rfl⟩))
  apply wp_region_lit
  refine wpList_load_row rfl 66 (.tmp 2) rfl w.heap.size rfl _ phC _ _ hg Try.underlying66 rfl (by kernel_rfl) ?_
  go_wp2_with (go_at_call 43; refine (static_ph _).mono ?_; rintro e w4 ⟨rfl, hb4⟩)
  go_ret
  exact ⟨rfl, below_next hbw hb4⟩

/-- The blow-outs of the examples. -/
def exLost (i : Nat) : Bool := decide (i = 2)
def exLen (i : Nat) : Nat := if i = 0 then 2 else 1
def exMv (t : Int) (i k : Nat) : Int := if i = 0 then k + 1 else if i = 1 then t else 2
theorem ex_ok {t : Int} (h0 : 0 ≤ t) (h1 : t < 3) : Okb 3 exLen (exMv t) := by
  refine ⟨by omega, by omega, fun i hi => ?_, fun i hi => ?_, fun i k hi hk => ?_, fun i k hi hk => ?_⟩
  · unfold exLen; split <;> omega
  · unfold exLen; split <;> omega
  · unfold exMv; split
    · omega
    · split <;> omega
  · unfold exLen at hk; unfold exMv; split
    · rename_i h; simp [h] at hk; omega
    · split <;> omega
set_option maxHeartbeats 4000000 in
theorem shown_is (w : World) :
    Calls Try.prog 22 #[] w fun e w' => ∃ lb mb P, e = .returned (.agg (bv lb 0 mb 0 3 3 3)) ∧ BIs w' lb 0 mb 0 3 exLost P (fun _ => 0) exLen exLen (exMv 2) ∧ Below w.heap.size w w' := by
  go_enter Try.func22, Try.ntmps22
  go_wp2
  refine bodyPost_ret (v := .agg (bv (w.heap.size + 1) 0 (w.heap.size + 5) 0 3 3 3)) (by simp [results, Try.results22, go_sem]) rfl ⟨_, _, fun i => w.heap.size + 2 + i, rfl, ⟨fun i hi => ?_, fun i hi => ?_, fun i k hi hk => ?_⟩, by go_grown⟩
  · match i, hi with
    | 0, _ => simp [go_sem, exLost]
    | 1, _ => simp [go_sem, exLost]
    | 2, _ => simp [go_sem, exLost]
  · match i, hi with
    | 0, _ => simp [go_sem, exLen]
    | 1, _ => simp [go_sem, exLen]
    | 2, _ => simp [go_sem, exLen]
  · match i, k, hi, hk with
    | 0, 0, _, _ => simp [go_sem, exMv]
    | 0, 1, _, _ => simp [go_sem, exMv]
    | 1, 0, _, _ => simp [go_sem, exMv]
    | 2, 0, _, _ => simp [go_sem, exMv]
    | 0, k + 2, _, h => simp [exLen] at h; omega
    | 1, k + 1, _, h => simp [exLen] at h
    | 2, k + 1, _, h => simp [exLen] at h
set_option maxHeartbeats 4000000 in
theorem turned_is (w : World) :
    Calls Try.prog 23 #[] w fun e w' => ∃ lb mb P, e = .returned (.agg (bv lb 0 mb 0 3 3 3)) ∧ BIs w' lb 0 mb 0 3 exLost P (fun _ => 0) exLen exLen (exMv 0) ∧ Below w.heap.size w w' := by
  go_enter Try.func23, Try.ntmps23
  go_wp2
  refine bodyPost_ret (v := .agg (bv (w.heap.size + 1) 0 (w.heap.size + 5) 0 3 3 3)) (by simp [results, Try.results23, go_sem]) rfl ⟨_, _, fun i => w.heap.size + 2 + i, rfl, ⟨fun i hi => ?_, fun i hi => ?_, fun i k hi hk => ?_⟩, by go_grown⟩
  · match i, hi with
    | 0, _ => simp [go_sem, exLost]
    | 1, _ => simp [go_sem, exLost]
    | 2, _ => simp [go_sem, exLost]
  · match i, hi with
    | 0, _ => simp [go_sem, exLen]
    | 1, _ => simp [go_sem, exLen]
    | 2, _ => simp [go_sem, exLen]
  · match i, k, hi, hk with
    | 0, 0, _, _ => simp [go_sem, exMv]
    | 0, 1, _, _ => simp [go_sem, exMv]
    | 1, 0, _, _ => simp [go_sem, exMv]
    | 2, 0, _, _ => simp [go_sem, exMv]
    | 0, k + 2, _, h => simp [exLen] at h; omega
    | 1, k + 1, _, h => simp [exLen] at h
    | 2, k + 1, _, h => simp [exLen] at h
end Go.Proofs.Ytgohbjlfgiohiaa
