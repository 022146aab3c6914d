/- What blow-outs look like in memory; the smallest functions of layer 10 that speak of them; the search in a list by a function value. -/
import Derived.Test.YtgohbjlfgiohiaaRows
import Derived.WalkKit
import Derived.WalkSpells
import Derived.WalkLawsBesides
import Derived.ProofKit
import Derived.Handy
import Derived.BigQuiet
import Derived.Deep.QuietTactic
import Derived.Below
import Derived.OwnWalk
import Derived.Deep.LoopGhost
import Derived.Deep.DeepCutAuto
import Derived.Deep.RegionHeld3
namespace Go.Proofs.Ytgohbjlfgiohiaa
open Go.RowKit

theorem lt_of_cell {w : World} {p : Addr} {v : Value} (h : w.cell? p = some v) : p.block < w.heap.size := by
  unfold World.cell? at h
  split at h
  · rename_i hb
    exact (Array.getElem?_eq_some_iff.1 hb).1
  · cases h
theorem ret_i {k : IntKind} {a b : Int} (h : a = b) : Ending.returned (.int k a) = .returned (.int k b) := by rw [h]
theorem ret_b {a b : Bool} (h : a = b) : Ending.returned (.bool a) = .returned (.bool b) := by rw [h]
theorem below_next {a b c : World} (h : Below a.heap.size a b) (k : Below b.heap.size b c) : Below a.heap.size a c := h.trans (k.mono h.size)
theorem below_drewN {w : World} (n : Nat) (B : Nat) : Below B w (w.drewN n) := ⟨rfl, rfl, rfl, Nat.le_refl _, fun _ _ => rfl⟩
/-- A call of a function that has a Go body enters it. -/
theorem call_enter {P : Program} {f : FuncId} {fn : Func} (hf : P.funcs[f]? = some fn) (hname : (fn.name == "runtime.NumGoroutine") = false) (hb : fn.body.isNone = false) (args : Array Value) (w : World) :
    (callFunc f args).run P w = .ok (.enter f args) w := by
  have h1 : fn.name ≠ "runtime.NumGoroutine" := by simpa using hname
  obtain ⟨c, hc⟩ : ∃ c, fn.body = some c := by
    cases h : fn.body with
    | none => rw [h] at hb; cases hb
    | some c => exact ⟨c, rfl⟩
  simp [callFunc, hf, h1, hc]

/-- n lies from lo to hi. -/
def wi (n lo hi : Int) : Bool := decide (lo ≤ n) && decide (n ≤ hi)
set_option maxHeartbeats 400000 in
theorem within_any (n lo hi : Int) (w : World) :
    Calls Try.prog 38 #[.int .i64 n, .int .i64 lo, .int .i64 hi] w fun e w' => e = .returned (.bool (wi n lo hi)) ∧ w = w' := by
  unfold wi
  by_cases h : lo ≤ n
  · go_enter Try.func38, Try.ntmps38
    go_wp2
    go_ret
    exact ⟨by simp [h], rfl⟩
  · go_enter Try.func38, Try.ntmps38
    go_wp2
    go_ret
    exact ⟨by simp; omega, rfl⟩

/-- A blow-out lies so in memory: what is lost, and where the moves of each state are. -/
structure BIs (w : World) (lb lo mb mo n : Nat) (lost : Nat → Bool) (P O C len : Nat → Nat) (mv : Nat → Nat → Int) : Prop where
  lost : ∀ i, i < n → w.cell? ⟨lb, lo + i, none⟩ = some (.bool (lost i))
  moves : ∀ i, i < n → w.cell? ⟨mb, mo + i, none⟩ = some (.slice (some ⟨P i, O i, none⟩) (len i) (C i))
  mv : ∀ i k, i < n → k < len i → w.cell? ⟨P i, O i + k, none⟩ = some (.int .i64 (mv i k))
theorem BIs.below {w w' : World} {lb lo mb mo n : Nat} {lost : Nat → Bool} {P O C len : Nat → Nat} {mv : Nat → Nat → Int} (h : BIs w lb lo mb mo n lost P O C len mv) (k : Below w.heap.size w w') : BIs w' lb lo mb mo n lost P O C len mv :=
  ⟨fun i hi => (k.cell (p := ⟨_, _, _⟩) (lt_of_cell (h.lost i hi))).trans (h.lost i hi), fun i hi => (k.cell (p := ⟨_, _, _⟩) (lt_of_cell (h.moves i hi))).trans (h.moves i hi),
   fun i j hi hj => (k.cell (p := ⟨_, _, _⟩) (lt_of_cell (h.mv i j hi hj))).trans (h.mv i j hi hj)⟩
theorem BIs.lost0 {w : World} {lb mb mo n : Nat} {lost : Nat → Bool} {P O C len : Nat → Nat} {mv : Nat → Nat → Int} (h : BIs w lb 0 mb mo n lost P O C len mv) {i : Nat} (hi : i < n) : w.cell? ⟨lb, i, none⟩ = some (.bool (lost i)) := by
  have := h.lost i hi
  rwa [Nat.zero_add] at this
theorem BIs.moves0 {w : World} {lb lo mb n : Nat} {lost : Nat → Bool} {P C len : Nat → Nat} {mv : Nat → Nat → Int} (h : BIs w lb lo mb 0 n lost P (fun _ => 0) C len mv) {i : Nat} (hi : i < n) : w.cell? ⟨mb, i, none⟩ = some (.slice (some ⟨P i, 0, none⟩) (len i) (C i)) := by
  have := h.moves i hi
  rwa [Nat.zero_add] at this
theorem BIs.mv0 {w : World} {lb lo mb n : Nat} {lost : Nat → Bool} {P C len : Nat → Nat} {mv : Nat → Nat → Int} (h : BIs w lb lo mb 0 n lost P (fun _ => 0) C len mv) {i k : Nat} (hi : i < n) (hk : k < len i) : w.cell? ⟨P i, k, none⟩ = some (.int .i64 (mv i k)) := by
  have := h.mv i k hi hk
  rwa [Nat.zero_add] at this
/-- A blow-out as a value. -/
abbrev bv (lb lo mb mo n lc mc : Nat) : Array Value := #[.slice (some ⟨lb, lo, none⟩) n lc, .slice (some ⟨mb, mo, none⟩) n mc]
/-- A blow-out is valid. -/
structure Okb (n : Nat) (len : Nat → Nat) (mv : Nat → Nat → Int) : Prop where
  n1 : 1 ≤ n
  n2 : n ≤ 64
  l1 : ∀ i, i < n → 1 ≤ len i
  l2 : ∀ i, i < n → len i ≤ 4
  m0 : ∀ i k, i < n → k < len i → 0 ≤ mv i k
  m1 : ∀ i k, i < n → k < len i → mv i k < n

/-- x is a state of n. -/
def isSt (n : Nat) (x : Int) : Bool := decide (0 ≤ x) && decide (x < n)
set_option maxHeartbeats 400000 in
theorem isState_any (lb lo mb mo n lc mc : Nat) (x : Int) (w : World) :
    Calls Try.prog 33 #[.agg (bv lb lo mb mo n lc mc), .int .i64 x] w fun e w' => e = .returned (.bool (isSt n x)) ∧ Below w.heap.size w w' := by
  unfold isSt
  by_cases h : 0 ≤ x
  · go_enter Try.func33, Try.ntmps33
    go_wp2
    go_ret
    exact ⟨by simp [h], by go_grown⟩
  · go_enter Try.func33, Try.ntmps33
    go_wp2
    go_ret
    exact ⟨by simp; omega, by go_grown⟩
set_option maxHeartbeats 400000 in
theorem bad_any (lb lo mb mo n lc mc : Nat) (x : Int) (bb : Nat) (w : World) (h0 : w.cell? ⟨bb, 0, none⟩ = some (.slice (some ⟨lb, lo, none⟩) n lc)) (h1 : w.cell? ⟨bb, 1, none⟩ = some (.slice (some ⟨mb, mo, none⟩) n mc)) :
    Calls Try.prog 32 #[.int .i64 x, .pointer (some ⟨bb, 0, none⟩)] w fun e w' => e = .returned (.bool (!isSt n x)) ∧ Below w.heap.size w w' := by
  go_enter Try.func32, Try.ntmps32
  go_wp2_with (go_at_call 33; refine (isState_any _ _ _ _ _ _ _ _ _).mono ?_; rintro e w' ⟨rfl, hb⟩)
  go_ret
  exact ⟨rfl, hb⟩
set_option maxHeartbeats 400000 in
theorem out_any (lb lo mb mo n lc mc : Nat) (x : Int) (bb : Nat) (w : World) (h0 : w.cell? ⟨bb, 0, none⟩ = some (.slice (some ⟨lb, lo, none⟩) n lc)) (h1 : w.cell? ⟨bb, 1, none⟩ = some (.slice (some ⟨mb, mo, none⟩) n mc)) :
    Calls Try.prog 34 #[.int .i64 x, .pointer (some ⟨bb, 0, none⟩)] w fun e w' => e = .returned (.bool (!isSt n x)) ∧ Below w.heap.size w w' := by
  go_enter Try.func34, Try.ntmps34
  go_wp2_with (go_at_call 33; refine (isState_any _ _ _ _ _ _ _ _ _).mono ?_; rintro e w' ⟨rfl, hb⟩)
  go_ret
  exact ⟨rfl, hb⟩
set_option maxHeartbeats 400000 in
theorem safe1_any (sb ab n nc : Nat) (s : Nat → Bool) (x : Nat) (hx : x < n) (w : World) (h0 : w.cell? ⟨sb, 0, none⟩ = some (.slice (some ⟨ab, 0, none⟩) n nc)) (h1 : w.cell? ⟨ab, x, none⟩ = some (.bool (s x))) :
    Calls Try.prog 30 #[.int .i64 x, .pointer (some ⟨sb, 0, none⟩)] w fun e w' => e = .returned (.bool (s x)) ∧ Below w.heap.size w w' := by
  have hx' : (x : Int) < n := by omega
  go_enter Try.func30, Try.ntmps30
  go_wp2
  go_ret
  exact ⟨rfl, by go_grown⟩
set_option maxHeartbeats 400000 in
theorem way1_any (sb ab n nc : Nat) (s : Nat → Bool) (x : Nat) (hx : x < n) (w : World) (h0 : w.cell? ⟨sb, 0, none⟩ = some (.slice (some ⟨ab, 0, none⟩) n nc)) (h1 : w.cell? ⟨ab, x, none⟩ = some (.bool (s x))) :
    Calls Try.prog 35 #[.int .i64 x, .pointer (some ⟨sb, 0, none⟩)] w fun e w' => e = .returned (.bool (s x)) ∧ Below w.heap.size w w' := by
  have hx' : (x : Int) < n := by omega
  go_enter Try.func35, Try.ntmps35
  go_wp2
  go_ret
  exact ⟨rfl, by go_grown⟩
end Go.Proofs.Ytgohbjlfgiohiaa
