/-
  From the symbolic run to the machine: the call of the examples returns true.
-/
import Derived.Test.YtohpjhplofimjaaKx
import Derived.Test.YtohpjhplofimjaaYl
set_option maxRecDepth 100000
namespace Go.Proofs.Ytohpjhplofimjaa
open Go
theorem aw_run : Go.Rx.yields Try.prog 100000 [] 60 7 [] (.b true) = true := by decide +kernel
end Go.Proofs.Ytohpjhplofimjaa
