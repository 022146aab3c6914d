/-
  From the symbolic run to the machine: the call of the examples returns true.
-/
import Derived.Test.YtlbimnefemcaaaaKx
import Derived.Test.YtlbimnefemcaaaaYn
set_option maxRecDepth 100000
namespace Go.Proofs.Ytlbimnefemcaaaa
open Go
theorem aw_run : Go.Rx.yields Try.prog 100000 [] 60 11 [] (.b true) = true := by decide +kernel
end Go.Proofs.Ytlbimnefemcaaaa
