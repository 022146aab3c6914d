/- The run of CasingKnown. -/
import Derived.Test.YtoiakopcididlaaKx
namespace Go.Proofs.Ytoiakopcididlaa
open Go Go.Rx

def knownTab : Tab := []
set_option maxRecDepth 100000 in
theorem knownTab_ok : TabOK Try.prog knownTab := Go.Rx.tab_none
set_option maxRecDepth 100000 in
theorem known_run : yields Try.prog 100000 knownTab 60 3 [] (.b true) = true := by decide +kernel
end Go.Proofs.Ytoiakopcididlaa
