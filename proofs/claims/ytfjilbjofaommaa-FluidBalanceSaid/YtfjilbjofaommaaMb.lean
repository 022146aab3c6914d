/-
  The call of the examples, told of. No law.
-/
import Derived.Test.YtfjilbjofaommaaKx
import Derived.Test.YtfjilbjofaommaaFm
import Derived.Test.YtfjilbjofaommaaLe
import Derived.Test.YtfjilbjofaommaaEn
set_option linter.unusedSimpArgs false
set_option linter.unusedVariables false
set_option maxRecDepth 100000
namespace Go.Proofs.Ytfjilbjofaommaa
open Go Go.Rx

abbrev AW : Nat := 14
/-- Only the call of the examples is told of. -/
abbrev sp0 {A : Go.Rx.Alg} : Go.Rx.SpL A := [(AW, Go.Rx.awakeS)]
theorem sp0_ok {fs : Fs} {ov : Bool} {d : Nat} : SpOK (fs := fs) (ov := ov) Try.prog AW d sp0 := SpOK.cons awake_ok SpOK.nil
theorem sp0_aw {fs : Fs} {ov : Bool} : (spOf (A := stdA fs ov) sp0 AW).isSome = true := rfl
end Go.Proofs.Ytfjilbjofaommaa
