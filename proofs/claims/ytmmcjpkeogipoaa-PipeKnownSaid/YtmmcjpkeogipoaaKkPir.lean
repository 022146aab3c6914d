/- The run of PipeKnown. -/
import Derived.Test.YtmmcjpkeogipoaaKx
namespace Go.Proofs.Ytmmcjpkeogipoaa
open Go Go.Rx

def knownTab : Tab := [(37, [([.i .i64 2500000000], .i .i64 50000), ([.i .i64 900000000], .i .i64 30000), ([.i .i64 400000000000], .i .i64 632455), ([.i .i64 0], .i .i64 0)])]
set_option maxRecDepth 100000 in
theorem knownTab_ok : TabOK Try.prog knownTab := Go.Rx.tab_more (L := 100000) (n := 60) mixes named (Go.Rx.tab_more (L := 100000) (n := 60) mixes named (Go.Rx.tab_more (L := 100000) (n := 60) mixes named (Go.Rx.tab_one (L := 100000) (n := 60) mixes named (Go.Rx.tab_none) (by decide +kernel)) (by decide +kernel)) (by decide +kernel)) (by decide +kernel)
set_option maxRecDepth 100000 in
theorem known_run : yields Try.prog 100000 knownTab 60 3 [] (.b true) = true := by decide +kernel
end Go.Proofs.Ytmmcjpkeogipoaa
