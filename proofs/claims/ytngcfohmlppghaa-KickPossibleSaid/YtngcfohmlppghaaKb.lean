/- The contracts of what a channel says of a kick: flows and gains, by the program and by the reference. -/
import Derived.Test.YtngcfohmlppghaaKa
namespace Go.Proofs.Ytngcfohmlppghaa
open Go.RowKit

theorem mul_bd {a b A B : Int} (h0 : 0 ≤ a) (h1 : a ≤ A) (h2 : 0 ≤ b) (h3 : b ≤ B) : 0 ≤ a * b ∧ a * b ≤ A * B :=
  ⟨Int.mul_nonneg h0 h2, Int.mul_le_mul h1 h3 h2 (by omega)⟩
theorem ret_int {k : IntKind} {a b : Int} (h : a = b) : Ending.returned (.int k a) = .returned (.int k b) := by rw [h]

/-- The flow and the gain of a kick, n ticks after its beginning. -/
def flowV (r g n : Int) : Int := if n < 0 then 0 else r + n * g
def gainV (r g n : Int) : Int := if n < 0 then 0 else n * r + g * (n * (n - 1) / 2)
/-- What a channel says. -/
def sayV (c r g n : Int) : Int := if c = 2 then flowV r g n else gainV r g n
theorem flow_bd {r g n : Int} (hr : 0 ≤ r ∧ r ≤ 16777216) (hg : 0 ≤ g ∧ g ≤ 4096) (hn : n ≤ 20000) : 0 ≤ flowV r g n ∧ flowV r g n ≤ 98697216 := by
  unfold flowV
  split
  · omega
  · have := mul_bd (a := n) (A := 20000) (b := g) (B := 4096) (by omega) hn hg.1 hg.2
    omega
theorem gain_bd {r g n : Int} (hr : 0 ≤ r ∧ r ≤ 16777216) (hg : 0 ≤ g ∧ g ≤ 4096) (hn : n ≤ 20000) : 0 ≤ gainV r g n ∧ gainV r g n ≤ 1154744320000 := by
  unfold gainV
  split
  · omega
  · rename_i h
    have b1 := mul_bd (a := n) (A := 20000) (b := r) (B := 16777216) (by omega) hn hr.1 hr.2
    have b2 : 0 ≤ n * (n - 1) ∧ n * (n - 1) ≤ 20000 * 20000 := by
      by_cases h0 : n = 0
      · subst h0; simp
      · exact mul_bd (by omega) hn (by omega) (by omega)
    have b3 := mul_bd (a := g) (A := 4096) (b := n * (n - 1) / 2) (B := 200000000) hg.1 hg.2 (by omega) (by omega)
    omega
theorem say_bd {c r g n : Int} (hr : 0 ≤ r ∧ r ≤ 16777216) (hg : 0 ≤ g ∧ g ≤ 4096) (hn : n ≤ 20000) : 0 ≤ sayV c r g n ∧ sayV c r g n ≤ 1154744320000 := by
  unfold sayV
  split
  · have := flow_bd hr hg hn; omega
  · exact gain_bd hr hg hn
theorem kickB_bd {r g : Int} (h : kickB r g = true) : (0 ≤ r ∧ r ≤ 16777216) ∧ (0 ≤ g ∧ g ≤ 4096) := by
  simp [kickB, wi] at h; omega

set_option maxHeartbeats 400000 in
theorem cgain_any (r g n : Int) (hr : 0 ≤ r ∧ r ≤ 16777216) (hg : 0 ≤ g ∧ g ≤ 4096) (hn : n ≤ 20000) (w : World) :
    Calls Try.prog 75 #[.agg #[.int .i64 r, .int .i64 g], .int .i64 n] w fun e w' => e = .returned (.int .i64 (gainV r g n)) ∧ w.alloc (.cells #[.int .i64 r, .int .i64 g] 115) = w' := by
  by_cases h : n < 0
  · have e0 : gainV r g n = 0 := by simp [gainV, h]
    rw [e0]
    go_enter Try.func75, Try.ntmps75
    go_wp2
    go_ret
    exact ⟨rfl, rfl⟩
  · have e0 : gainV r g n = n * r + g * (n * (n - 1) / 2) := by simp [gainV, h]
    rw [e0]
    clear e0
    have h' : 0 ≤ n := by omega
    clear h
    obtain ⟨r0, r1⟩ := hr
    obtain ⟨g0, g1⟩ := hg
    obtain ⟨b10, b11⟩ := mul_bd (a := n) (A := 20000) (b := r) (B := 16777216) (by omega) hn r0 r1
    have b2 : 0 ≤ n * (n - 1) ∧ n * (n - 1) ≤ 20000 * 20000 := by
      by_cases h0 : n = 0
      · subst h0; simp
      · exact mul_bd (by omega) hn (by omega) (by omega)
    obtain ⟨b20, b21⟩ := b2
    obtain ⟨b30, b31⟩ := mul_bd (a := g) (A := 4096) (b := n * (n - 1) / 2) (B := 200000000) g0 g1 (by omega) (by omega)
    go_enter Try.func75, Try.ntmps75
    go_wp2
    go_ret
    exact ⟨rfl, rfl⟩

set_option maxHeartbeats 400000 in
theorem cflow_any (r g n : Int) (hr : 0 ≤ r ∧ r ≤ 16777216) (hg : 0 ≤ g ∧ g ≤ 4096) (hn : n ≤ 20000) (w : World) :
    Calls Try.prog 77 #[.agg #[.int .i64 r, .int .i64 g], .int .i64 n] w fun e w' => e = .returned (.int .i64 (flowV r g n)) ∧ w.alloc (.cells #[.int .i64 r, .int .i64 g] 115) = w' := by
  by_cases h : n < 0
  · have e0 : flowV r g n = 0 := by simp [flowV, h]
    rw [e0]
    go_enter Try.func77, Try.ntmps77
    go_wp2
    go_ret
    exact ⟨rfl, rfl⟩
  · have e0 : flowV r g n = r + n * g := by simp [flowV, h]
    rw [e0]
    clear e0
    have h' : 0 ≤ n := by omega
    clear h
    obtain ⟨r0, r1⟩ := hr
    obtain ⟨g0, g1⟩ := hg
    obtain ⟨b10, b11⟩ := mul_bd (a := n) (A := 20000) (b := g) (B := 4096) (by omega) hn g0 g1
    go_enter Try.func77, Try.ntmps77
    go_wp2
    go_ret
    exact ⟨rfl, rfl⟩

/-- The function that a channel's value calls. -/
def chF (c : Int) : Nat := if c = 2 then 77 else 75

/-- A call of a function that has a Go body enters it. -/
theorem call_enter {P : Program} {f : FuncId} {fn : Func} (hf : P.funcs[f]? = some fn) (hname : (fn.name == "runtime.NumGoroutine") = false) (hb : fn.body.isNone = false) (args : Array Value) (w : World) :
    (callFunc f args).run P w = .ok (.enter f args) w := by
  have h1 : fn.name ≠ "runtime.NumGoroutine" := by simpa using hname
  obtain ⟨c, hc⟩ : ∃ c, fn.body = some c := by
    cases h : fn.body with
    | none => rw [h] at hb; cases hb
    | some c => exact ⟨c, rfl⟩
  simp [callFunc, hf, h1, hc]
theorem chF_enter (c : Int) (args : Array Value) (w : World) : (callFunc (chF c) args).run Try.prog w = .ok (.enter (chF c) args) w := by
  unfold chF
  split
  · exact call_enter Try.func77 (by kernel_rfl) (by kernel_rfl) args w
  · exact call_enter Try.func75 (by kernel_rfl) (by kernel_rfl) args w

theorem says_any (c r g n : Int) (hr : 0 ≤ r ∧ r ≤ 16777216) (hg : 0 ≤ g ∧ g ≤ 4096) (hn : n ≤ 20000) (w : World) :
    Calls Try.prog (chF c) #[.agg #[.int .i64 r, .int .i64 g], .int .i64 n] w fun e w' => e = .returned (.int .i64 (sayV c r g n)) ∧ w.alloc (.cells #[.int .i64 r, .int .i64 g] 115) = w' := by
  unfold chF sayV
  split
  · exact cflow_any r g n hr hg hn w
  · exact cgain_any r g n hr hg hn w

set_option maxHeartbeats 400000 in
theorem channel_any (c p d n s l m k r g : Int) (w : World) :
    Calls Try.prog 78 #[.agg (sv c p d n s l m k), .agg #[.int .i64 r, .int .i64 g]] w fun e w' =>
      e = .returned (.func (.func (chF c)) #[.agg #[.int .i64 r, .int .i64 g]] #[]) ∧ Below w.heap.size w w' := by
  have hmf : ∀ (fn : Fn) (first cap : Array Value) (w : World), (Instr.makeFunc fn first cap).run Try.prog w = .ok (.func fn first cap) w := fun _ _ _ _ => rfl
  by_cases h : c = 2
  · subst h
    go_enter Try.func78, Try.ntmps78
    go_wp2
    go_ret
    refine ⟨by simp [chF], ?_⟩
    go_grown
  · have h' : (c == 2) = false := by simp [h]
    have e0 : chF c = 75 := by simp [chF, h]
    rw [e0]
    clear h e0
    go_enter Try.func78, Try.ntmps78
    go_wp2
    go_ret
    refine ⟨rfl, ?_⟩
    go_grown
end Go.Proofs.Ytngcfohmlppghaa
