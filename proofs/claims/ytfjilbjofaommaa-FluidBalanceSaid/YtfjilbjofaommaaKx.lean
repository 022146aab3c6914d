/-
  What the evaluator asks of the seat's program: mixed orders are followed, and no function with a body has the one name that the machine treats apart.
-/
import Derived.Test.YtfjilbjofaommaaChecked
import Derived.Test.YtfjilbjofaommaaRows
import Derived.Test.YtfjilbjofaommaaZx
import Derived.Test.YtfjilbjofaommaaKr
namespace Go.Proofs.Ytfjilbjofaommaa
open Go

theorem mixes : Try.prog.follows .mixedOrders = true := by decide +kernel
set_option maxRecDepth 100000 in
theorem named_all : Try.prog.funcs.toList.all (fun fn => fn.body.isNone || !(fn.name == "runtime.NumGoroutine")) = true := by decide +kernel
theorem named (g : Nat) (fn : Func) (c : Code) (h : Try.prog.funcs[g]? = some fn) (hb : fn.body = some c) : (fn.name == "runtime.NumGoroutine") = false := by
  have hm : fn ∈ Try.prog.funcs.toList := by
    obtain ⟨hl, rfl⟩ := Array.getElem?_eq_some_iff.1 h
    exact Array.mem_toList_iff.2 (Array.getElem_mem hl)
  have := List.all_eq_true.1 named_all fn hm
  simp [hb] at this
  simp [this]
end Go.Proofs.Ytfjilbjofaommaa
