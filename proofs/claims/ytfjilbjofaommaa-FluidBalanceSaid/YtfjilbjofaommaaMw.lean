/-
  From the symbolic run to the machine: the call of the examples returns true.
-/
import Derived.Test.YtfjilbjofaommaaKx
import Derived.Test.YtfjilbjofaommaaYn
set_option maxRecDepth 100000
namespace Go.Proofs.Ytfjilbjofaommaa
open Go
theorem aw_run : Go.Rx.yields Try.prog 100000 [] 60 14 [] (.b true) = true := by decide +kernel
end Go.Proofs.Ytfjilbjofaommaa
