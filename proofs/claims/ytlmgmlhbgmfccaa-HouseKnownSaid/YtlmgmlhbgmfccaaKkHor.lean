/- The run of HouseKnown. -/
import Derived.Test.YtlmgmlhbgmfccaaKx
namespace Go.Proofs.Ytlmgmlhbgmfccaa

set_option maxRecDepth 100000 in
theorem known_run : Go.Rx.yields Try.prog 100000 [] 60 5 [] (.b true) = true := by decide +kernel
end Go.Proofs.Ytlmgmlhbgmfccaa
