/-
  From the symbolic run to the machine: the call of the examples returns true.
-/
import Derived.Test.YtibinojifhfbmaaKx
import Derived.Test.YtibinojifhfbmaaYn
set_option maxRecDepth 100000
namespace Go.Proofs.Ytibinojifhfbmaa
open Go
theorem aw_run : Go.Rx.yields Try.prog 100000 [] 60 5 [] (.b true) = true := by decide +kernel
end Go.Proofs.Ytibinojifhfbmaa
