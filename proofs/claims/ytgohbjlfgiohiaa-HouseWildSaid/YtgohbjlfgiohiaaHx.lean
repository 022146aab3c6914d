/- Two lists of integers, and two lists of lists, that hold the same. -/
import Derived.Test.YtgohbjlfgiohiaaHn
import Derived.Test.YtgohbjlfgiohiaaHc
namespace Go.Proofs.Ytgohbjlfgiohiaa
open Go.RowKit

theorem IsL.drewN {w : World} {ra : Option Addr} {len : Nat} {mv : Nat → Int} (h : IsL w ra len mv) (m : Nat) : IsL (w.drewN m) ra len mv := h
set_option maxHeartbeats 1000000 in
theorem sameInts_ok (ra rb : Option Addr) (len ca cb : Nat) (f g : Nat → Int) (w : World) (hl : len ≤ 9223372036854775807) (ha : IsL w ra len f) (hb : IsL w rb len g) (he : ∀ k, k < len → f k = g k) :
    Calls Try.prog 15 #[.slice ra len ca, .slice rb len cb] w fun e w' => e = .returned (.bool true) ∧ ∃ m, w' = w.drewN m := by
  have HA : Aside (IsL w ra len f) := ha
  have HB : Aside (IsL w rb len g) := hb
  have HE : Aside (∀ k, k < len → f k = g k) := he
  clear ha hb he
  go_enter Try.func15, Try.ntmps15
  go_wp2_with fail
  go_loopg [5] len (fun q v wr => ∃ (k : Nat) (m : Nat), v = .int .i64 k ∧ k + q = len ∧ wr = w.drewN m)
  case atStart => exact ⟨0, 0, rfl, by omega, rfl⟩
  case round =>
    obtain ⟨k, m, rfl, hk, hwr⟩ := hrel
    have HW : Aside (wr = w.drewN m) := hwr
    have HA2 : Aside (IsL wr ra len f) := by rw [show Aside (IsL wr ra len f) = IsL wr ra len f from rfl, hwr]; exact HA.out.drewN m
    have HB2 : Aside (IsL wr rb len g) := by rw [show Aside (IsL wr rb len g) = IsL wr rb len g from rfl, hwr]; exact HB.out.drewN m
    clear hwr
    by_cases hend : k < len
    · have hend' : (k : Int) < len := by omega
      obtain ⟨q, rfl⟩ : ∃ q, gk = q + 1 := ⟨gk - 1, by omega⟩
      obtain ⟨b, o, rfl, hc⟩ : ∃ b o, ra = some ⟨b, o, none⟩ ∧ wr.cell? ⟨b, o + k, none⟩ = some (.int .i64 (f k)) := by
        rcases HA2.out with h0 | ⟨b, o, rfl, h⟩
        · omega
        · exact ⟨b, o, rfl, h k hend⟩
      obtain ⟨b', o', rfl, hc'⟩ : ∃ b o, rb = some ⟨b, o, none⟩ ∧ wr.cell? ⟨b, o + k, none⟩ = some (.int .i64 (g k)) := by
        rcases HB2.out with h0 | ⟨b, o, rfl, h⟩
        · omega
        · exact ⟨b, o, rfl, h k hend⟩
      rw [← HE.out k hend] at hc'
      obtain ⟨x, hx⟩ : ∃ x, x = f k := ⟨_, rfl⟩
      rw [← hx] at hc hc'
      clear hx
      go_upto_region 8 with fail
      go_quiet (fail)
      go_wp2_with fail
      go_roundg q
      case measure => omega
      case rel => exact ⟨k + 1, m + _, by simp, by omega, by rw [HW.out, World.drewN_drewN]⟩
    · have hend' : ¬ (k : Int) < len := by omega
      go_wp2_with fail
      go_ret
      exact ⟨rfl, m, HW.out⟩
set_option maxHeartbeats 1000000 in
theorem sameLists_ok {n : Nat} (mb mc mb' mc' : Nat) (P C P' C' len : Nat → Nat) (mv : Nat → Nat → Int) (w : World) (hn : n ≤ 1000) (hl : ∀ i, i < n → len i ≤ 1000)
    (ha : ∀ i, i < n → w.cell? ⟨mb, i, none⟩ = some (.slice (some ⟨P i, 0, none⟩) (len i) (C i))) (hb : ∀ i, i < n → w.cell? ⟨mb', i, none⟩ = some (.slice (some ⟨P' i, 0, none⟩) (len i) (C' i)))
    (va : ∀ i k, i < n → k < len i → w.cell? ⟨P i, k, none⟩ = some (.int .i64 (mv i k))) (vb : ∀ i k, i < n → k < len i → w.cell? ⟨P' i, k, none⟩ = some (.int .i64 (mv i k))) :
    Calls Try.prog 20 #[.slice (some ⟨mb, 0, none⟩) n mc, .slice (some ⟨mb', 0, none⟩) n mc'] w fun e w' => e = .returned (.bool true) ∧ ∃ m, w' = w.drewN m := by
  have HL : Aside (∀ i, i < n → len i ≤ 1000) := hl
  have HA : Aside (∀ i, i < n → w.cell? ⟨mb, i, none⟩ = some (.slice (some ⟨P i, 0, none⟩) (len i) (C i))) := ha
  have HB : Aside (∀ i, i < n → w.cell? ⟨mb', i, none⟩ = some (.slice (some ⟨P' i, 0, none⟩) (len i) (C' i))) := hb
  have VA : Aside (∀ i k, i < n → k < len i → w.cell? ⟨P i, k, none⟩ = some (.int .i64 (mv i k))) := va
  have VB : Aside (∀ i k, i < n → k < len i → w.cell? ⟨P' i, k, none⟩ = some (.int .i64 (mv i k))) := vb
  clear hl ha hb va vb
  go_enter Try.func20, Try.ntmps20
  go_wp2_with fail
  go_loopg [5] n (fun q v wr => ∃ (k : Nat) (m : Nat), v = .int .i64 k ∧ k + q = n ∧ wr = w.drewN m)
  case atStart => exact ⟨0, 0, rfl, by omega, rfl⟩
  case round =>
    obtain ⟨k, m, rfl, hk, hwr⟩ := hrel
    have HW : Aside (wr = w.drewN m) := hwr
    by_cases hend : k < n
    · have hend' : (k : Int) < n := by omega
      obtain ⟨q, rfl⟩ : ∃ q, gk = q + 1 := ⟨gk - 1, by omega⟩
      have ca : wr.cell? ⟨mb, k, none⟩ = some (.slice (some ⟨P k, 0, none⟩) (len k) (C k)) := by rw [hwr]; exact HA.out k hend
      have cb : wr.cell? ⟨mb', k, none⟩ = some (.slice (some ⟨P' k, 0, none⟩) (len k) (C' k)) := by rw [hwr]; exact HB.out k hend
      have hS : ∀ j, Calls Try.prog 15 #[.slice (some ⟨P k, 0, none⟩) (len k) (C k), .slice (some ⟨P' k, 0, none⟩) (len k) (C' k)] (wr.drewN j) fun e w' => e = .returned (.bool true) ∧ ∃ m, w' = (wr.drewN j).drewN m := by
        intro j
        refine sameInts_ok _ _ (len k) (C k) (C' k) (mv k) (mv k) (wr.drewN j) (by have := HL.out k hend; omega) (.inr ⟨_, _, rfl, fun i hi => ?_⟩) (.inr ⟨_, _, rfl, fun i hi => ?_⟩) (fun _ _ => rfl)
        · rw [Nat.zero_add, hwr]; exact VA.out k i hend hi
        · rw [Nat.zero_add, hwr]; exact VB.out k i hend hi
      obtain ⟨L, hL⟩ : ∃ L, L = len k := ⟨_, rfl⟩
      rw [← hL] at ca cb hS
      have HS : Aside (∀ j, Calls Try.prog 15 #[.slice (some ⟨P k, 0, none⟩) L (C k), .slice (some ⟨P' k, 0, none⟩) L (C' k)] (wr.drewN j) fun e w' => e = .returned (.bool true) ∧ ∃ m, w' = (wr.drewN j).drewN m) := hS
      clear hS hL hwr
      go_upto_region 6 with fail
      go_quiet ((go_at_call 15; exact Calls.quiet_of (HS.out _)))
      go_wp2_with fail
      go_roundg q
      case measure => omega
      case rel => exact ⟨k + 1, m + _, by simp, by omega, by rw [HW.out, World.drewN_drewN]⟩
    · have hend' : ¬ (k : Int) < n := by omega
      clear hwr
      go_wp2_with fail
      go_ret
      exact ⟨rfl, m, HW.out⟩
set_option maxHeartbeats 1000000 in
theorem sameLists_nil (w : World) :
    Calls Try.prog 20 #[.slice none 0 0, .slice none 0 0] w fun e w' => e = .returned (.bool true) ∧ ∃ m, w' = w.drewN m := by
  go_enter Try.func20, Try.ntmps20
  go_wp2_with fail
  go_loopg [5] 0 (fun q v wr => v = .int .i64 0 ∧ w = wr)
  case atStart => exact ⟨rfl, rfl⟩
  case round =>
    obtain ⟨rfl, rfl⟩ := hrel
    go_wp2_with fail
    go_ret
    exact ⟨rfl, 0, rfl⟩
/-- Numbers that make no wild well. -/
def BadW (l r t : Int) : Prop := ¬ (1 ≤ l ∧ l ≤ 15 ∧ 1 ≤ r ∧ r ≤ 15 ∧ 0 ≤ t ∧ t ≤ 3)
set_option maxRecDepth 100000 in
set_option maxHeartbeats 1000000 in
theorem wild_bad (l r t : Int) (h : BadW l r t) (w : World) :
    Calls Try.prog 18 #[.int .i64 l, .int .i64 r, .int .i64 t] w fun e w' => e = .returned (.tuple #[.agg #[.slice none 0 0, .slice none 0 0], .int .i64 2]) ∧ Below w.heap.size w w' := by
  have H : Aside (BadW l r t) := h
  clear h
  go_enter Try.func18, Try.ntmps18
  go_upto_region 3 with fail
  all_goals first
    | (exfalso; have := H.out; unfold BadW at this; omega)
    | exact bodyPost_ret (v := .tuple #[.agg #[.slice none 0 0, .slice none 0 0], .int .i64 2]) (by simp [results, Try.results18, go_sem]) rfl ⟨rfl, by go_grown⟩
set_option maxRecDepth 100000 in
set_option maxHeartbeats 1000000 in
theorem rwild_bad (l r t : Int) (h : BadW l r t) (w : World) :
    Calls Try.prog 19 #[.int .i64 l, .int .i64 r, .int .i64 t] w fun e w' => e = .returned (.tuple #[.agg #[.slice none 0 0, .slice none 0 0], .int .i64 2]) ∧ Below w.heap.size w w' := by
  have H : Aside (BadW l r t) := h
  clear h
  go_enter Try.func19, Try.ntmps19
  go_upto_region 3 with fail
  all_goals first
    | (exfalso; have := H.out; unfold BadW at this; omega)
    | exact bodyPost_ret (v := .tuple #[.agg #[.slice none 0 0, .slice none 0 0], .int .i64 2]) (by simp [results, Try.results19, go_sem]) rfl ⟨rfl, by go_grown⟩
end Go.Proofs.Ytgohbjlfgiohiaa
