/- PipeKnown returns true: every worked example that it lists answers as the document says. It has no input; no condition. -/
import Derived.Test.YtmmcjpkeogipoaaKr
import Derived.Test.YtmmcjpkeogipoaaKkPir
namespace Go.Proofs.Ytmmcjpkeogipoaa
open Go.ChangeShapes Go.WideShapes Go.ChangeAt Go.RowKit

theorem known_any (w : World) : Calls Try.prog 3 #[] w fun e w' => e = .returned (.bool true) ∧ Below w.heap.size w w' :=
  Go.Rx.closed_known mixes named knownTab_ok known_run w
50000
end Go.Proofs.Ytmmcjpkeogipoaa
