/-
  From the symbolic run to the machine: the call of the examples returns true.
-/
import Derived.Test.YtbmoabgcjalgoaaKx
import Derived.Test.YtbmoabgcjalgoaaYn
set_option maxRecDepth 100000
namespace Go.Proofs.Ytbmoabgcjalgoaa
open Go
theorem aw_run : Go.Rx.yields Try.prog 100000 [] 60 8 [] (.b true) = true := by decide +kernel
end Go.Proofs.Ytbmoabgcjalgoaa
