/-
  No cell of these rows narrows 'for every input' (looked for: loops, veiled, ifaces, maps, wideKeys, modest, calm, conditions, laid).
  DERIVED. THE GIVEN ROWS OF THIS SEAT. 6 by the template 'for every input the law returns true; each argument reads behind the call as it read before'; 0 by the template 'total and deterministic' (their statements: YtfjilbjofaommaaTotals.lean).
  GIVEN WITH THE SEED: the statements are not yours to turn. If you find one false, say at which input.
  Laid BY PROGRAM, IN A SANDBOX (cutbox-rows.mjs): the forced cells as the released guide's own fill.sh prints them over the translation c484eb1cf3f8319e… (all of the seat's roots in one cut). By AI agents, Wed Nov 11 2026. No macro, syntax, notation, axiom, sorry.
-/
import Derived.Test.YtfjilbjofaommaaChecked
import GoSem.Claim
import GoSem.ClaimJoined
import GoSem.ClaimMapViews
import Derived.JoinedTies
import Derived.KernelRfl
namespace Go.Proofs.Ytfjilbjofaommaa
/- THE CELL 'sum', in the pinned program and in every row, IS THE sha256 OF THE DUMP (.gsa) THAT YtfjilbjofaommaaProg.lean LOADS. Nothing in Lean hashes anything: it is a label: what it is worth is what the hold of that sum in a sandbox is worth. -/
noncomputable def Try.pinned : Pinned := { name := "ytfjilbjofaommaa", sum := "c484eb1cf3f8319efc1ce6862756e43cda3fede99bf98beda37a4177d1e00cdd", checked := Try.checked }
namespace Rows
def none {H : Type} : Left H := { results := [], args := [] }

/-- 'moonpoollaw03.FluidDeeper': WHATEVER THE INPUT: true; the input reads as it did. -/
def fluidDeeperSpec : ChangeSpec := { name := "fluidDeeper", fn := fun _ => fun
  | [d1, d2, d3, d4, d5, d6] => { results := [.lit (.bool true)], args := [d1, d2, d3, d4, d5, d6] }
  | _ => none }
def fluidDeeperRow : OpenClaim := { program := "ytfjilbjofaommaa", sum := "c484eb1cf3f8319efc1ce6862756e43cda3fede99bf98beda37a4177d1e00cdd", func := "moonpool/moonpoollaw03.FluidDeeper", spec := "fluidDeeper", unfollowed := true, recurses := true, apart := false }
def FluidDeeperSaid : Prop := fluidDeeperRow.holds Try.pinned (OpenSpec.ofChange fluidDeeperSpec)

/-- ITS FALSE NEIGHBOUR: 'it returns false'. Refute it at one input. -/
def fluidDeeperWrong : ChangeSpec := { name := "fluidDeeper", fn := fun _ => fun
  | [d1, d2, d3, d4, d5, d6] => { results := [.lit (.bool false)], args := [d1, d2, d3, d4, d5, d6] }
  | _ => none }
def FluidDeeperWrongFalsely : Prop := fluidDeeperRow.holds Try.pinned (OpenSpec.ofChange fluidDeeperWrong)

/-- 'moonpoollaw03.FluidEncloses': WHATEVER THE INPUT: true; the input reads as it did. -/
def fluidEnclosesSpec : ChangeSpec := { name := "fluidEncloses", fn := fun _ => fun
  | [d1, d2, d3, d4] => { results := [.lit (.bool true)], args := [d1, d2, d3, d4] }
  | _ => none }
def fluidEnclosesRow : OpenClaim := { program := "ytfjilbjofaommaa", sum := "c484eb1cf3f8319efc1ce6862756e43cda3fede99bf98beda37a4177d1e00cdd", func := "moonpool/moonpoollaw03.FluidEncloses", spec := "fluidEncloses", unfollowed := true, recurses := true, apart := false }
def FluidEnclosesSaid : Prop := fluidEnclosesRow.holds Try.pinned (OpenSpec.ofChange fluidEnclosesSpec)

/-- ITS FALSE NEIGHBOUR: 'it returns false'. Refute it at one input. -/
def fluidEnclosesWrong : ChangeSpec := { name := "fluidEncloses", fn := fun _ => fun
  | [d1, d2, d3, d4] => { results := [.lit (.bool false)], args := [d1, d2, d3, d4] }
  | _ => none }
def FluidEnclosesWrongFalsely : Prop := fluidEnclosesRow.holds Try.pinned (OpenSpec.ofChange fluidEnclosesWrong)

/-- 'moonpoollaw03.FluidPumps': WHATEVER THE INPUT: true; the input reads as it did. -/
def fluidPumpsSpec : ChangeSpec := { name := "fluidPumps", fn := fun _ => fun
  | [d1, d2, d3] => { results := [.lit (.bool true)], args := [d1, d2, d3] }
  | _ => none }
def fluidPumpsRow : OpenClaim := { program := "ytfjilbjofaommaa", sum := "c484eb1cf3f8319efc1ce6862756e43cda3fede99bf98beda37a4177d1e00cdd", func := "moonpool/moonpoollaw03.FluidPumps", spec := "fluidPumps", unfollowed := true, recurses := true, apart := false }
def FluidPumpsSaid : Prop := fluidPumpsRow.holds Try.pinned (OpenSpec.ofChange fluidPumpsSpec)

/-- ITS FALSE NEIGHBOUR: 'it returns false'. Refute it at one input. -/
def fluidPumpsWrong : ChangeSpec := { name := "fluidPumps", fn := fun _ => fun
  | [d1, d2, d3] => { results := [.lit (.bool false)], args := [d1, d2, d3] }
  | _ => none }
def FluidPumpsWrongFalsely : Prop := fluidPumpsRow.holds Try.pinned (OpenSpec.ofChange fluidPumpsWrong)

/-- 'moonpoollaw03.FluidBalance': WHATEVER THE INPUT: true; the input reads as it did. -/
def fluidBalanceSpec : ChangeSpec := { name := "fluidBalance", fn := fun _ => fun
  | [d1, d2, d3, d4, d5] => { results := [.lit (.bool true)], args := [d1, d2, d3, d4, d5] }
  | _ => none }
def fluidBalanceRow : OpenClaim := { program := "ytfjilbjofaommaa", sum := "c484eb1cf3f8319efc1ce6862756e43cda3fede99bf98beda37a4177d1e00cdd", func := "moonpool/moonpoollaw03.FluidBalance", spec := "fluidBalance", unfollowed := true, recurses := true, apart := false }
def FluidBalanceSaid : Prop := fluidBalanceRow.holds Try.pinned (OpenSpec.ofChange fluidBalanceSpec)

/-- ITS FALSE NEIGHBOUR: 'it returns false'. Refute it at one input. -/
def fluidBalanceWrong : ChangeSpec := { name := "fluidBalance", fn := fun _ => fun
  | [d1, d2, d3, d4, d5] => { results := [.lit (.bool false)], args := [d1, d2, d3, d4, d5] }
  | _ => none }
def FluidBalanceWrongFalsely : Prop := fluidBalanceRow.holds Try.pinned (OpenSpec.ofChange fluidBalanceWrong)

/-- 'moonpoollaw03.FluidLosses': WHATEVER THE INPUT: true; the input reads as it did. -/
def fluidLossesSpec : ChangeSpec := { name := "fluidLosses", fn := fun _ => fun
  | [d1, d2, d3, d4, d5] => { results := [.lit (.bool true)], args := [d1, d2, d3, d4, d5] }
  | _ => none }
def fluidLossesRow : OpenClaim := { program := "ytfjilbjofaommaa", sum := "c484eb1cf3f8319efc1ce6862756e43cda3fede99bf98beda37a4177d1e00cdd", func := "moonpool/moonpoollaw03.FluidLosses", spec := "fluidLosses", unfollowed := true, recurses := true, apart := false }
def FluidLossesSaid : Prop := fluidLossesRow.holds Try.pinned (OpenSpec.ofChange fluidLossesSpec)

/-- ITS FALSE NEIGHBOUR: 'it returns false'. Refute it at one input. -/
def fluidLossesWrong : ChangeSpec := { name := "fluidLosses", fn := fun _ => fun
  | [d1, d2, d3, d4, d5] => { results := [.lit (.bool false)], args := [d1, d2, d3, d4, d5] }
  | _ => none }
def FluidLossesWrongFalsely : Prop := fluidLossesRow.holds Try.pinned (OpenSpec.ofChange fluidLossesWrong)

/-- 'moonpoollaw03.FluidFlows': WHATEVER THE INPUT: true; the input reads as it did. -/
def fluidFlowsSpec : ChangeSpec := { name := "fluidFlows", fn := fun _ => fun
  | [d1, d2, d3, d4, d5, d6] => { results := [.lit (.bool true)], args := [d1, d2, d3, d4, d5, d6] }
  | _ => none }
def fluidFlowsRow : OpenClaim := { program := "ytfjilbjofaommaa", sum := "c484eb1cf3f8319efc1ce6862756e43cda3fede99bf98beda37a4177d1e00cdd", func := "moonpool/moonpoollaw03.FluidFlows", spec := "fluidFlows", unfollowed := true, recurses := true, apart := false }
def FluidFlowsSaid : Prop := fluidFlowsRow.holds Try.pinned (OpenSpec.ofChange fluidFlowsSpec)

/-- ITS FALSE NEIGHBOUR: 'it returns false'. Refute it at one input. -/
def fluidFlowsWrong : ChangeSpec := { name := "fluidFlows", fn := fun _ => fun
  | [d1, d2, d3, d4, d5, d6] => { results := [.lit (.bool false)], args := [d1, d2, d3, d4, d5, d6] }
  | _ => none }
def FluidFlowsWrongFalsely : Prop := fluidFlowsRow.holds Try.pinned (OpenSpec.ofChange fluidFlowsWrong)

/- THE SECOND FORM. 'bulk': how many values and letters a reading holds, each counted each time it is reached (what is shared counts as often as it is met; a slice's spare places count too). A statement '..UptoSaid' is the law's where the arguments, and the package variables that the reading takes, are together of bulk at most 1048576: NARROWER than '..Said'. Prove '..Said' where nothing that the law and all that it calls make is longer than what came in: it says more and counts as full. Else prove '..UptoSaid'. A law counts once. -/
mutual
def uptoBulk {H : Type} : DataW H → Nat
  | .lit (.string bytes) => bytes.length + 1
  | .lit _ => 1
  | .nil => 1
  | .ptr d => uptoBulk d + 1
  | .slice elems spare => uptoBulkAll elems + uptoBulkAll spare + 1
  | .agg parts => uptoBulkAll parts + 1
  | .iface _ d => uptoBulk d + 1
  | .map entries => uptoBulkEntries entries + 1
  | .held _ => 1
def uptoBulkAll {H : Type} : List (DataW H) → Nat
  | [] => 0
  | d :: r => uptoBulk d + uptoBulkAll r
def uptoBulkEntries {H : Type} : List (Lit × DataW H) → Nat
  | [] => 0
  | x :: r => uptoBulkEntry x + uptoBulkEntries r
def uptoBulkEntry {H : Type} : Lit × DataW H → Nat
  | (.string bytes, d) => bytes.length + uptoBulk d + 1
  | (_, d) => uptoBulk d + 1
 end
def uptoSmall : (H : Type) → List (DataW H) → Bool := fun _ ds => decide (uptoBulkAll ds ≤ 1048576)
def OpenSpec.upto (s : _root_.Go.ChangeSpec) : _root_.Go.OpenSpec := { _root_.Go.OpenSpec.ofChange s with cond := some uptoSmall }

/-- 'moonpoollaw03.FluidDeeper', WHERE WHAT IT READS IS OF BULK AT MOST 1048576: true; the input reads as it did. -/
def fluidDeeperUptoRow : OpenClaim := { program := "ytfjilbjofaommaa", sum := "c484eb1cf3f8319efc1ce6862756e43cda3fede99bf98beda37a4177d1e00cdd", func := "moonpool/moonpoollaw03.FluidDeeper", spec := "fluidDeeper", unfollowed := true, recurses := true, apart := false, narrowed := true }
def FluidDeeperUptoSaid : Prop := fluidDeeperUptoRow.holds Try.pinned (OpenSpec.upto fluidDeeperSpec)

/-- 'moonpoollaw03.FluidEncloses', WHERE WHAT IT READS IS OF BULK AT MOST 1048576: true; the input reads as it did. -/
def fluidEnclosesUptoRow : OpenClaim := { program := "ytfjilbjofaommaa", sum := "c484eb1cf3f8319efc1ce6862756e43cda3fede99bf98beda37a4177d1e00cdd", func := "moonpool/moonpoollaw03.FluidEncloses", spec := "fluidEncloses", unfollowed := true, recurses := true, apart := false, narrowed := true }
def FluidEnclosesUptoSaid : Prop := fluidEnclosesUptoRow.holds Try.pinned (OpenSpec.upto fluidEnclosesSpec)

/-- 'moonpoollaw03.FluidPumps', WHERE WHAT IT READS IS OF BULK AT MOST 1048576: true; the input reads as it did. -/
def fluidPumpsUptoRow : OpenClaim := { program := "ytfjilbjofaommaa", sum := "c484eb1cf3f8319efc1ce6862756e43cda3fede99bf98beda37a4177d1e00cdd", func := "moonpool/moonpoollaw03.FluidPumps", spec := "fluidPumps", unfollowed := true, recurses := true, apart := false, narrowed := true }
def FluidPumpsUptoSaid : Prop := fluidPumpsUptoRow.holds Try.pinned (OpenSpec.upto fluidPumpsSpec)

/-- 'moonpoollaw03.FluidBalance', WHERE WHAT IT READS IS OF BULK AT MOST 1048576: true; the input reads as it did. -/
def fluidBalanceUptoRow : OpenClaim := { program := "ytfjilbjofaommaa", sum := "c484eb1cf3f8319efc1ce6862756e43cda3fede99bf98beda37a4177d1e00cdd", func := "moonpool/moonpoollaw03.FluidBalance", spec := "fluidBalance", unfollowed := true, recurses := true, apart := false, narrowed := true }
def FluidBalanceUptoSaid : Prop := fluidBalanceUptoRow.holds Try.pinned (OpenSpec.upto fluidBalanceSpec)

/-- 'moonpoollaw03.FluidLosses', WHERE WHAT IT READS IS OF BULK AT MOST 1048576: true; the input reads as it did. -/
def fluidLossesUptoRow : OpenClaim := { program := "ytfjilbjofaommaa", sum := "c484eb1cf3f8319efc1ce6862756e43cda3fede99bf98beda37a4177d1e00cdd", func := "moonpool/moonpoollaw03.FluidLosses", spec := "fluidLosses", unfollowed := true, recurses := true, apart := false, narrowed := true }
def FluidLossesUptoSaid : Prop := fluidLossesUptoRow.holds Try.pinned (OpenSpec.upto fluidLossesSpec)

/-- 'moonpoollaw03.FluidFlows', WHERE WHAT IT READS IS OF BULK AT MOST 1048576: true; the input reads as it did. -/
def fluidFlowsUptoRow : OpenClaim := { program := "ytfjilbjofaommaa", sum := "c484eb1cf3f8319efc1ce6862756e43cda3fede99bf98beda37a4177d1e00cdd", func := "moonpool/moonpoollaw03.FluidFlows", spec := "fluidFlows", unfollowed := true, recurses := true, apart := false, narrowed := true }
def FluidFlowsUptoSaid : Prop := fluidFlowsUptoRow.holds Try.pinned (OpenSpec.upto fluidFlowsSpec)

end Rows
end Go.Proofs.Ytfjilbjofaommaa
