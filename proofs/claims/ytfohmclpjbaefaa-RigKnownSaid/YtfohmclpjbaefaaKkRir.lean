/- The run of RigKnown. -/
import Derived.Test.YtfohmclpjbaefaaKx
namespace Go.Proofs.Ytfohmclpjbaefaa
open Go Go.Rx

def knownTab : Tab := []
set_option maxRecDepth 100000 in
theorem knownTab_ok : TabOK Try.prog knownTab := Go.Rx.tab_none
set_option maxRecDepth 100000 in
theorem known_run : yields Try.prog 100000 knownTab 60 3 [] (.b true) = true := by decide +kernel
end Go.Proofs.Ytfohmclpjbaefaa
