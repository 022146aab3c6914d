/-
  From the symbolic run to the machine: the call of the examples returns true.
-/
import Derived.Test.YtjemcdjigeijbaaKx
import Derived.Test.YtjemcdjigeijbaaYn
set_option maxRecDepth 100000
namespace Go.Proofs.Ytjemcdjigeijbaa
open Go
theorem aw_run : Go.Rx.yields Try.prog 100000 [] 60 7 [] (.b true) = true := by decide +kernel
end Go.Proofs.Ytjemcdjigeijbaa
