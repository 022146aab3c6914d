/-
  From the symbolic run to the machine: the call of the examples returns true.
-/
import Derived.Test.YtbhpegjaafinlaaKx
import Derived.Test.YtbhpegjaafinlaaYn
set_option maxRecDepth 100000
namespace Go.Proofs.Ytbhpegjaafinlaa
open Go
theorem aw_run : Go.Rx.yields Try.prog 100000 [] 60 9 [] (.b true) = true := by decide +kernel
end Go.Proofs.Ytbhpegjaafinlaa
