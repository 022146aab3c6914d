/-
  No cell of these rows narrows 'for every input' (looked for: loops, veiled, ifaces, maps, wideKeys, modest, calm, conditions, laid).
  DERIVED. THE GIVEN ROWS OF THIS SEAT. 11 by the template 'for every input the law returns true; each argument reads behind the call as it read before'; 0 by the template 'total and deterministic' (their statements: YtgjnkdedknpniaaTotals.lean).
  GIVEN WITH THE SEED: the statements are not yours to turn. If you find one false, say at which input.
  Laid BY PROGRAM, IN A SANDBOX (cutbox-rows.mjs): the forced cells as the released guide's own fill.sh prints them over the translation 386ac2aead11f6d8… (all of the seat's roots in one cut). By AI agents, Wed Nov 11 2026. No macro, syntax, notation, axiom, sorry.
-/
import Derived.Test.YtgjnkdedknpniaaChecked
import GoSem.Claim
import GoSem.ClaimJoined
import GoSem.ClaimMapViews
import Derived.JoinedTies
import Derived.KernelRfl
namespace Go.Proofs.Ytgjnkdedknpniaa
/- THE CELL 'sum', in the pinned program and in every row, IS THE sha256 OF THE DUMP (.gsa) THAT YtgjnkdedknpniaaProg.lean LOADS. Nothing in Lean hashes anything: it is a label: what it is worth is what the hold of that sum in a sandbox is worth. -/
noncomputable def Try.pinned : Pinned := { name := "ytgjnkdedknpniaa", sum := "386ac2aead11f6d89dd63edf03c225b777e2f90bdad0b7de4b5974f32691f0fd", checked := Try.checked }
namespace Rows
def none {H : Type} : Left H := { results := [], args := [] }

/-- 'moonpoollaw03.FluidHoles': WHATEVER THE INPUT: true; the input reads as it did. -/
def fluidHolesSpec : ChangeSpec := { name := "fluidHoles", fn := fun _ => fun
  | [d1, d2] => { results := [.lit (.bool true)], args := [d1, d2] }
  | _ => none }
def fluidHolesRow : OpenClaim := { program := "ytgjnkdedknpniaa", sum := "386ac2aead11f6d89dd63edf03c225b777e2f90bdad0b7de4b5974f32691f0fd", func := "moonpool/moonpoollaw03.FluidHoles", spec := "fluidHoles", unfollowed := true, recurses := true, apart := false }
def FluidHolesSaid : Prop := fluidHolesRow.holds Try.pinned (OpenSpec.ofChange fluidHolesSpec)

/-- ITS FALSE NEIGHBOUR: 'it returns false'. Refute it at one input. -/
def fluidHolesWrong : ChangeSpec := { name := "fluidHoles", fn := fun _ => fun
  | [d1, d2] => { results := [.lit (.bool false)], args := [d1, d2] }
  | _ => none }
def FluidHolesWrongFalsely : Prop := fluidHolesRow.holds Try.pinned (OpenSpec.ofChange fluidHolesWrong)

/-- 'moonpoollaw03.FluidPumps': WHATEVER THE INPUT: true; the input reads as it did. -/
def fluidPumpsSpec : ChangeSpec := { name := "fluidPumps", fn := fun _ => fun
  | [d1, d2, d3] => { results := [.lit (.bool true)], args := [d1, d2, d3] }
  | _ => none }
def fluidPumpsRow : OpenClaim := { program := "ytgjnkdedknpniaa", sum := "386ac2aead11f6d89dd63edf03c225b777e2f90bdad0b7de4b5974f32691f0fd", func := "moonpool/moonpoollaw03.FluidPumps", spec := "fluidPumps", unfollowed := true, recurses := true, apart := false }
def FluidPumpsSaid : Prop := fluidPumpsRow.holds Try.pinned (OpenSpec.ofChange fluidPumpsSpec)

/-- ITS FALSE NEIGHBOUR: 'it returns false'. Refute it at one input. -/
def fluidPumpsWrong : ChangeSpec := { name := "fluidPumps", fn := fun _ => fun
  | [d1, d2, d3] => { results := [.lit (.bool false)], args := [d1, d2, d3] }
  | _ => none }
def FluidPumpsWrongFalsely : Prop := fluidPumpsRow.holds Try.pinned (OpenSpec.ofChange fluidPumpsWrong)

/-- 'moonpoollaw03.FluidFlows': WHATEVER THE INPUT: true; the input reads as it did. -/
def fluidFlowsSpec : ChangeSpec := { name := "fluidFlows", fn := fun _ => fun
  | [d1, d2, d3, d4, d5, d6] => { results := [.lit (.bool true)], args := [d1, d2, d3, d4, d5, d6] }
  | _ => none }
def fluidFlowsRow : OpenClaim := { program := "ytgjnkdedknpniaa", sum := "386ac2aead11f6d89dd63edf03c225b777e2f90bdad0b7de4b5974f32691f0fd", func := "moonpool/moonpoollaw03.FluidFlows", spec := "fluidFlows", unfollowed := true, recurses := true, apart := false }
def FluidFlowsSaid : Prop := fluidFlowsRow.holds Try.pinned (OpenSpec.ofChange fluidFlowsSpec)

/-- ITS FALSE NEIGHBOUR: 'it returns false'. Refute it at one input. -/
def fluidFlowsWrong : ChangeSpec := { name := "fluidFlows", fn := fun _ => fun
  | [d1, d2, d3, d4, d5, d6] => { results := [.lit (.bool false)], args := [d1, d2, d3, d4, d5, d6] }
  | _ => none }
def FluidFlowsWrongFalsely : Prop := fluidFlowsRow.holds Try.pinned (OpenSpec.ofChange fluidFlowsWrong)

/-- 'moonpoollaw03.FluidGas': WHATEVER THE INPUT: true; the input reads as it did. -/
def fluidGasSpec : ChangeSpec := { name := "fluidGas", fn := fun _ => fun
  | [d1, d2] => { results := [.lit (.bool true)], args := [d1, d2] }
  | _ => none }
def fluidGasRow : OpenClaim := { program := "ytgjnkdedknpniaa", sum := "386ac2aead11f6d89dd63edf03c225b777e2f90bdad0b7de4b5974f32691f0fd", func := "moonpool/moonpoollaw03.FluidGas", spec := "fluidGas", unfollowed := true, recurses := true, apart := false }
def FluidGasSaid : Prop := fluidGasRow.holds Try.pinned (OpenSpec.ofChange fluidGasSpec)

/-- ITS FALSE NEIGHBOUR: 'it returns false'. Refute it at one input. -/
def fluidGasWrong : ChangeSpec := { name := "fluidGas", fn := fun _ => fun
  | [d1, d2] => { results := [.lit (.bool false)], args := [d1, d2] }
  | _ => none }
def FluidGasWrongFalsely : Prop := fluidGasRow.holds Try.pinned (OpenSpec.ofChange fluidGasWrong)

/-- 'moonpoollaw03.FluidCuttings': WHATEVER THE INPUT: true; the input reads as it did. -/
def fluidCuttingsSpec : ChangeSpec := { name := "fluidCuttings", fn := fun _ => fun
  | [d1, d2, d3, d4, d5, d6, d7] => { results := [.lit (.bool true)], args := [d1, d2, d3, d4, d5, d6, d7] }
  | _ => none }
def fluidCuttingsRow : OpenClaim := { program := "ytgjnkdedknpniaa", sum := "386ac2aead11f6d89dd63edf03c225b777e2f90bdad0b7de4b5974f32691f0fd", func := "moonpool/moonpoollaw03.FluidCuttings", spec := "fluidCuttings", unfollowed := true, recurses := true, apart := false }
def FluidCuttingsSaid : Prop := fluidCuttingsRow.holds Try.pinned (OpenSpec.ofChange fluidCuttingsSpec)

/-- ITS FALSE NEIGHBOUR: 'it returns false'. Refute it at one input. -/
def fluidCuttingsWrong : ChangeSpec := { name := "fluidCuttings", fn := fun _ => fun
  | [d1, d2, d3, d4, d5, d6, d7] => { results := [.lit (.bool false)], args := [d1, d2, d3, d4, d5, d6, d7] }
  | _ => none }
def FluidCuttingsWrongFalsely : Prop := fluidCuttingsRow.holds Try.pinned (OpenSpec.ofChange fluidCuttingsWrong)

/-- 'moonpoollaw03.FluidHeights': WHATEVER THE INPUT: true; the input reads as it did. -/
def fluidHeightsSpec : ChangeSpec := { name := "fluidHeights", fn := fun _ => fun
  | [d1, d2] => { results := [.lit (.bool true)], args := [d1, d2] }
  | _ => none }
def fluidHeightsRow : OpenClaim := { program := "ytgjnkdedknpniaa", sum := "386ac2aead11f6d89dd63edf03c225b777e2f90bdad0b7de4b5974f32691f0fd", func := "moonpool/moonpoollaw03.FluidHeights", spec := "fluidHeights", unfollowed := true, recurses := true, apart := false }
def FluidHeightsSaid : Prop := fluidHeightsRow.holds Try.pinned (OpenSpec.ofChange fluidHeightsSpec)

/-- ITS FALSE NEIGHBOUR: 'it returns false'. Refute it at one input. -/
def fluidHeightsWrong : ChangeSpec := { name := "fluidHeights", fn := fun _ => fun
  | [d1, d2] => { results := [.lit (.bool false)], args := [d1, d2] }
  | _ => none }
def FluidHeightsWrongFalsely : Prop := fluidHeightsRow.holds Try.pinned (OpenSpec.ofChange fluidHeightsWrong)

/-- 'moonpoollaw03.FluidBalance': WHATEVER THE INPUT: true; the input reads as it did. -/
def fluidBalanceSpec : ChangeSpec := { name := "fluidBalance", fn := fun _ => fun
  | [d1, d2, d3, d4, d5] => { results := [.lit (.bool true)], args := [d1, d2, d3, d4, d5] }
  | _ => none }
def fluidBalanceRow : OpenClaim := { program := "ytgjnkdedknpniaa", sum := "386ac2aead11f6d89dd63edf03c225b777e2f90bdad0b7de4b5974f32691f0fd", func := "moonpool/moonpoollaw03.FluidBalance", spec := "fluidBalance", unfollowed := true, recurses := true, apart := false }
def FluidBalanceSaid : Prop := fluidBalanceRow.holds Try.pinned (OpenSpec.ofChange fluidBalanceSpec)

/-- ITS FALSE NEIGHBOUR: 'it returns false'. Refute it at one input. -/
def fluidBalanceWrong : ChangeSpec := { name := "fluidBalance", fn := fun _ => fun
  | [d1, d2, d3, d4, d5] => { results := [.lit (.bool false)], args := [d1, d2, d3, d4, d5] }
  | _ => none }
def FluidBalanceWrongFalsely : Prop := fluidBalanceRow.holds Try.pinned (OpenSpec.ofChange fluidBalanceWrong)

/-- 'moonpoollaw03.FluidLeast': WHATEVER THE INPUT: true; the input reads as it did. -/
def fluidLeastSpec : ChangeSpec := { name := "fluidLeast", fn := fun _ => fun
  | [d1, d2, d3, d4] => { results := [.lit (.bool true)], args := [d1, d2, d3, d4] }
  | _ => none }
def fluidLeastRow : OpenClaim := { program := "ytgjnkdedknpniaa", sum := "386ac2aead11f6d89dd63edf03c225b777e2f90bdad0b7de4b5974f32691f0fd", func := "moonpool/moonpoollaw03.FluidLeast", spec := "fluidLeast", unfollowed := true, recurses := true, apart := false }
def FluidLeastSaid : Prop := fluidLeastRow.holds Try.pinned (OpenSpec.ofChange fluidLeastSpec)

/-- ITS FALSE NEIGHBOUR: 'it returns false'. Refute it at one input. -/
def fluidLeastWrong : ChangeSpec := { name := "fluidLeast", fn := fun _ => fun
  | [d1, d2, d3, d4] => { results := [.lit (.bool false)], args := [d1, d2, d3, d4] }
  | _ => none }
def FluidLeastWrongFalsely : Prop := fluidLeastRow.holds Try.pinned (OpenSpec.ofChange fluidLeastWrong)

/-- 'moonpoollaw03.FluidLosses': WHATEVER THE INPUT: true; the input reads as it did. -/
def fluidLossesSpec : ChangeSpec := { name := "fluidLosses", fn := fun _ => fun
  | [d1, d2, d3, d4, d5] => { results := [.lit (.bool true)], args := [d1, d2, d3, d4, d5] }
  | _ => none }
def fluidLossesRow : OpenClaim := { program := "ytgjnkdedknpniaa", sum := "386ac2aead11f6d89dd63edf03c225b777e2f90bdad0b7de4b5974f32691f0fd", func := "moonpool/moonpoollaw03.FluidLosses", spec := "fluidLosses", unfollowed := true, recurses := true, apart := false }
def FluidLossesSaid : Prop := fluidLossesRow.holds Try.pinned (OpenSpec.ofChange fluidLossesSpec)

/-- ITS FALSE NEIGHBOUR: 'it returns false'. Refute it at one input. -/
def fluidLossesWrong : ChangeSpec := { name := "fluidLosses", fn := fun _ => fun
  | [d1, d2, d3, d4, d5] => { results := [.lit (.bool false)], args := [d1, d2, d3, d4, d5] }
  | _ => none }
def FluidLossesWrongFalsely : Prop := fluidLossesRow.holds Try.pinned (OpenSpec.ofChange fluidLossesWrong)

/-- 'moonpoollaw03.FluidBubbles': WHATEVER THE INPUT: true; the input reads as it did. -/
def fluidBubblesSpec : ChangeSpec := { name := "fluidBubbles", fn := fun _ => fun
  | [d1, d2, d3] => { results := [.lit (.bool true)], args := [d1, d2, d3] }
  | _ => none }
def fluidBubblesRow : OpenClaim := { program := "ytgjnkdedknpniaa", sum := "386ac2aead11f6d89dd63edf03c225b777e2f90bdad0b7de4b5974f32691f0fd", func := "moonpool/moonpoollaw03.FluidBubbles", spec := "fluidBubbles", unfollowed := true, recurses := true, apart := false }
def FluidBubblesSaid : Prop := fluidBubblesRow.holds Try.pinned (OpenSpec.ofChange fluidBubblesSpec)

/-- ITS FALSE NEIGHBOUR: 'it returns false'. Refute it at one input. -/
def fluidBubblesWrong : ChangeSpec := { name := "fluidBubbles", fn := fun _ => fun
  | [d1, d2, d3] => { results := [.lit (.bool false)], args := [d1, d2, d3] }
  | _ => none }
def FluidBubblesWrongFalsely : Prop := fluidBubblesRow.holds Try.pinned (OpenSpec.ofChange fluidBubblesWrong)

/-- 'moonpoollaw03.FluidCarried': WHATEVER THE INPUT: true; the input reads as it did. -/
def fluidCarriedSpec : ChangeSpec := { name := "fluidCarried", fn := fun _ => fun
  | [d1, d2, d3, d4, d5, d6, d7] => { results := [.lit (.bool true)], args := [d1, d2, d3, d4, d5, d6, d7] }
  | _ => none }
def fluidCarriedRow : OpenClaim := { program := "ytgjnkdedknpniaa", sum := "386ac2aead11f6d89dd63edf03c225b777e2f90bdad0b7de4b5974f32691f0fd", func := "moonpool/moonpoollaw03.FluidCarried", spec := "fluidCarried", unfollowed := true, recurses := true, apart := false }
def FluidCarriedSaid : Prop := fluidCarriedRow.holds Try.pinned (OpenSpec.ofChange fluidCarriedSpec)

/-- ITS FALSE NEIGHBOUR: 'it returns false'. Refute it at one input. -/
def fluidCarriedWrong : ChangeSpec := { name := "fluidCarried", fn := fun _ => fun
  | [d1, d2, d3, d4, d5, d6, d7] => { results := [.lit (.bool false)], args := [d1, d2, d3, d4, d5, d6, d7] }
  | _ => none }
def FluidCarriedWrongFalsely : Prop := fluidCarriedRow.holds Try.pinned (OpenSpec.ofChange fluidCarriedWrong)

/- THE SECOND FORM. 'bulk': how many values and letters a reading holds, each counted each time it is reached (what is shared counts as often as it is met; a slice's spare places count too). A statement '..UptoSaid' is the law's where the arguments, and the package variables that the reading takes, are together of bulk at most 1048576: NARROWER than '..Said'. Prove '..Said' where nothing that the law and all that it calls make is longer than what came in: it says more and counts as full. Else prove '..UptoSaid'. A law counts once. -/
mutual
def uptoBulk {H : Type} : DataW H → Nat
  | .lit (.string bytes) => bytes.length + 1
  | .lit _ => 1
  | .nil => 1
  | .ptr d => uptoBulk d + 1
  | .slice elems spare => uptoBulkAll elems + uptoBulkAll spare + 1
  | .agg parts => uptoBulkAll parts + 1
  | .iface _ d => uptoBulk d + 1
  | .map entries => uptoBulkEntries entries + 1
  | .held _ => 1
def uptoBulkAll {H : Type} : List (DataW H) → Nat
  | [] => 0
  | d :: r => uptoBulk d + uptoBulkAll r
def uptoBulkEntries {H : Type} : List (Lit × DataW H) → Nat
  | [] => 0
  | x :: r => uptoBulkEntry x + uptoBulkEntries r
def uptoBulkEntry {H : Type} : Lit × DataW H → Nat
  | (.string bytes, d) => bytes.length + uptoBulk d + 1
  | (_, d) => uptoBulk d + 1
 end
def uptoSmall : (H : Type) → List (DataW H) → Bool := fun _ ds => decide (uptoBulkAll ds ≤ 1048576)
def OpenSpec.upto (s : _root_.Go.ChangeSpec) : _root_.Go.OpenSpec := { _root_.Go.OpenSpec.ofChange s with cond := some uptoSmall }

/-- 'moonpoollaw03.FluidHoles', WHERE WHAT IT READS IS OF BULK AT MOST 1048576: true; the input reads as it did. -/
def fluidHolesUptoRow : OpenClaim := { program := "ytgjnkdedknpniaa", sum := "386ac2aead11f6d89dd63edf03c225b777e2f90bdad0b7de4b5974f32691f0fd", func := "moonpool/moonpoollaw03.FluidHoles", spec := "fluidHoles", unfollowed := true, recurses := true, apart := false, narrowed := true }
def FluidHolesUptoSaid : Prop := fluidHolesUptoRow.holds Try.pinned (OpenSpec.upto fluidHolesSpec)

/-- 'moonpoollaw03.FluidPumps', WHERE WHAT IT READS IS OF BULK AT MOST 1048576: true; the input reads as it did. -/
def fluidPumpsUptoRow : OpenClaim := { program := "ytgjnkdedknpniaa", sum := "386ac2aead11f6d89dd63edf03c225b777e2f90bdad0b7de4b5974f32691f0fd", func := "moonpool/moonpoollaw03.FluidPumps", spec := "fluidPumps", unfollowed := true, recurses := true, apart := false, narrowed := true }
def FluidPumpsUptoSaid : Prop := fluidPumpsUptoRow.holds Try.pinned (OpenSpec.upto fluidPumpsSpec)

/-- 'moonpoollaw03.FluidFlows', WHERE WHAT IT READS IS OF BULK AT MOST 1048576: true; the input reads as it did. -/
def fluidFlowsUptoRow : OpenClaim := { program := "ytgjnkdedknpniaa", sum := "386ac2aead11f6d89dd63edf03c225b777e2f90bdad0b7de4b5974f32691f0fd", func := "moonpool/moonpoollaw03.FluidFlows", spec := "fluidFlows", unfollowed := true, recurses := true, apart := false, narrowed := true }
def FluidFlowsUptoSaid : Prop := fluidFlowsUptoRow.holds Try.pinned (OpenSpec.upto fluidFlowsSpec)

/-- 'moonpoollaw03.FluidGas', WHERE WHAT IT READS IS OF BULK AT MOST 1048576: true; the input reads as it did. -/
def fluidGasUptoRow : OpenClaim := { program := "ytgjnkdedknpniaa", sum := "386ac2aead11f6d89dd63edf03c225b777e2f90bdad0b7de4b5974f32691f0fd", func := "moonpool/moonpoollaw03.FluidGas", spec := "fluidGas", unfollowed := true, recurses := true, apart := false, narrowed := true }
def FluidGasUptoSaid : Prop := fluidGasUptoRow.holds Try.pinned (OpenSpec.upto fluidGasSpec)

/-- 'moonpoollaw03.FluidCuttings', WHERE WHAT IT READS IS OF BULK AT MOST 1048576: true; the input reads as it did. -/
def fluidCuttingsUptoRow : OpenClaim := { program := "ytgjnkdedknpniaa", sum := "386ac2aead11f6d89dd63edf03c225b777e2f90bdad0b7de4b5974f32691f0fd", func := "moonpool/moonpoollaw03.FluidCuttings", spec := "fluidCuttings", unfollowed := true, recurses := true, apart := false, narrowed := true }
def FluidCuttingsUptoSaid : Prop := fluidCuttingsUptoRow.holds Try.pinned (OpenSpec.upto fluidCuttingsSpec)

/-- 'moonpoollaw03.FluidHeights', WHERE WHAT IT READS IS OF BULK AT MOST 1048576: true; the input reads as it did. -/
def fluidHeightsUptoRow : OpenClaim := { program := "ytgjnkdedknpniaa", sum := "386ac2aead11f6d89dd63edf03c225b777e2f90bdad0b7de4b5974f32691f0fd", func := "moonpool/moonpoollaw03.FluidHeights", spec := "fluidHeights", unfollowed := true, recurses := true, apart := false, narrowed := true }
def FluidHeightsUptoSaid : Prop := fluidHeightsUptoRow.holds Try.pinned (OpenSpec.upto fluidHeightsSpec)

/-- 'moonpoollaw03.FluidBalance', WHERE WHAT IT READS IS OF BULK AT MOST 1048576: true; the input reads as it did. -/
def fluidBalanceUptoRow : OpenClaim := { program := "ytgjnkdedknpniaa", sum := "386ac2aead11f6d89dd63edf03c225b777e2f90bdad0b7de4b5974f32691f0fd", func := "moonpool/moonpoollaw03.FluidBalance", spec := "fluidBalance", unfollowed := true, recurses := true, apart := false, narrowed := true }
def FluidBalanceUptoSaid : Prop := fluidBalanceUptoRow.holds Try.pinned (OpenSpec.upto fluidBalanceSpec)

/-- 'moonpoollaw03.FluidLeast', WHERE WHAT IT READS IS OF BULK AT MOST 1048576: true; the input reads as it did. -/
def fluidLeastUptoRow : OpenClaim := { program := "ytgjnkdedknpniaa", sum := "386ac2aead11f6d89dd63edf03c225b777e2f90bdad0b7de4b5974f32691f0fd", func := "moonpool/moonpoollaw03.FluidLeast", spec := "fluidLeast", unfollowed := true, recurses := true, apart := false, narrowed := true }
def FluidLeastUptoSaid : Prop := fluidLeastUptoRow.holds Try.pinned (OpenSpec.upto fluidLeastSpec)

/-- 'moonpoollaw03.FluidLosses', WHERE WHAT IT READS IS OF BULK AT MOST 1048576: true; the input reads as it did. -/
def fluidLossesUptoRow : OpenClaim := { program := "ytgjnkdedknpniaa", sum := "386ac2aead11f6d89dd63edf03c225b777e2f90bdad0b7de4b5974f32691f0fd", func := "moonpool/moonpoollaw03.FluidLosses", spec := "fluidLosses", unfollowed := true, recurses := true, apart := false, narrowed := true }
def FluidLossesUptoSaid : Prop := fluidLossesUptoRow.holds Try.pinned (OpenSpec.upto fluidLossesSpec)

/-- 'moonpoollaw03.FluidBubbles', WHERE WHAT IT READS IS OF BULK AT MOST 1048576: true; the input reads as it did. -/
def fluidBubblesUptoRow : OpenClaim := { program := "ytgjnkdedknpniaa", sum := "386ac2aead11f6d89dd63edf03c225b777e2f90bdad0b7de4b5974f32691f0fd", func := "moonpool/moonpoollaw03.FluidBubbles", spec := "fluidBubbles", unfollowed := true, recurses := true, apart := false, narrowed := true }
def FluidBubblesUptoSaid : Prop := fluidBubblesUptoRow.holds Try.pinned (OpenSpec.upto fluidBubblesSpec)

/-- 'moonpoollaw03.FluidCarried', WHERE WHAT IT READS IS OF BULK AT MOST 1048576: true; the input reads as it did. -/
def fluidCarriedUptoRow : OpenClaim := { program := "ytgjnkdedknpniaa", sum := "386ac2aead11f6d89dd63edf03c225b777e2f90bdad0b7de4b5974f32691f0fd", func := "moonpool/moonpoollaw03.FluidCarried", spec := "fluidCarried", unfollowed := true, recurses := true, apart := false, narrowed := true }
def FluidCarriedUptoSaid : Prop := fluidCarriedUptoRow.holds Try.pinned (OpenSpec.upto fluidCarriedSpec)

end Rows
end Go.Proofs.Ytgjnkdedknpniaa
