/-
  No cell of these rows narrows 'for every input' (looked for: loops, veiled, ifaces, maps, wideKeys, modest, calm, conditions, laid).
  DERIVED. THE GIVEN ROWS OF THIS SEAT. 3 by the template 'for every input the law returns true; each argument reads behind the call as it read before'; 0 by the template 'total and deterministic' (their statements: YtjemcdjigeijbaaTotals.lean).
  GIVEN WITH THE SEED: the statements are not yours to turn. If you find one false, say at which input.
  Laid BY PROGRAM, IN A SANDBOX (cutbox-rows.mjs): the forced cells as the released guide's own fill.sh prints them over the translation 4b7ba5ef50489e7e… (all of the seat's roots in one cut). By AI agents, Wed Nov 11 2026. No macro, syntax, notation, axiom, sorry.
-/
import Derived.Test.YtjemcdjigeijbaaChecked
import GoSem.Claim
import GoSem.ClaimJoined
import GoSem.ClaimMapViews
import Derived.JoinedTies
import Derived.KernelRfl
namespace Go.Proofs.Ytjemcdjigeijbaa
/- THE CELL 'sum', in the pinned program and in every row, IS THE sha256 OF THE DUMP (.gsa) THAT YtjemcdjigeijbaaProg.lean LOADS. Nothing in Lean hashes anything: it is a label: what it is worth is what the hold of that sum in a sandbox is worth. -/
noncomputable def Try.pinned : Pinned := { name := "ytjemcdjigeijbaa", sum := "4b7ba5ef50489e7ec30c4d0392ea37332595576515d2d091e7bb47fa222edef7", checked := Try.checked }
namespace Rows
def none {H : Type} : Left H := { results := [], args := [] }

/-- 'moonpoollaw02.EarthValues': WHATEVER THE INPUT: true; the input reads as it did. -/
def earthValuesSpec : ChangeSpec := { name := "earthValues", fn := fun _ => fun
  | [d1, d2, d3, d4] => { results := [.lit (.bool true)], args := [d1, d2, d3, d4] }
  | _ => none }
def earthValuesRow : OpenClaim := { program := "ytjemcdjigeijbaa", sum := "4b7ba5ef50489e7ec30c4d0392ea37332595576515d2d091e7bb47fa222edef7", func := "moonpool/moonpoollaw02.EarthValues", spec := "earthValues", unfollowed := true, recurses := true, apart := false }
def EarthValuesSaid : Prop := earthValuesRow.holds Try.pinned (OpenSpec.ofChange earthValuesSpec)

/-- ITS FALSE NEIGHBOUR: 'it returns false'. Refute it at one input. -/
def earthValuesWrong : ChangeSpec := { name := "earthValues", fn := fun _ => fun
  | [d1, d2, d3, d4] => { results := [.lit (.bool false)], args := [d1, d2, d3, d4] }
  | _ => none }
def EarthValuesWrongFalsely : Prop := earthValuesRow.holds Try.pinned (OpenSpec.ofChange earthValuesWrong)

/-- 'moonpoollaw02.EarthOrder': WHATEVER THE INPUT: true; the input reads as it did. -/
def earthOrderSpec : ChangeSpec := { name := "earthOrder", fn := fun _ => fun
  | [d1, d2, d3, d4] => { results := [.lit (.bool true)], args := [d1, d2, d3, d4] }
  | _ => none }
def earthOrderRow : OpenClaim := { program := "ytjemcdjigeijbaa", sum := "4b7ba5ef50489e7ec30c4d0392ea37332595576515d2d091e7bb47fa222edef7", func := "moonpool/moonpoollaw02.EarthOrder", spec := "earthOrder", unfollowed := true, recurses := true, apart := false }
def EarthOrderSaid : Prop := earthOrderRow.holds Try.pinned (OpenSpec.ofChange earthOrderSpec)

/-- ITS FALSE NEIGHBOUR: 'it returns false'. Refute it at one input. -/
def earthOrderWrong : ChangeSpec := { name := "earthOrder", fn := fun _ => fun
  | [d1, d2, d3, d4] => { results := [.lit (.bool false)], args := [d1, d2, d3, d4] }
  | _ => none }
def EarthOrderWrongFalsely : Prop := earthOrderRow.holds Try.pinned (OpenSpec.ofChange earthOrderWrong)

/-- 'moonpoollaw02.EarthParts': WHATEVER THE INPUT: true; the input reads as it did. -/
def earthPartsSpec : ChangeSpec := { name := "earthParts", fn := fun _ => fun
  | [d1, d2, d3, d4] => { results := [.lit (.bool true)], args := [d1, d2, d3, d4] }
  | _ => none }
def earthPartsRow : OpenClaim := { program := "ytjemcdjigeijbaa", sum := "4b7ba5ef50489e7ec30c4d0392ea37332595576515d2d091e7bb47fa222edef7", func := "moonpool/moonpoollaw02.EarthParts", spec := "earthParts", unfollowed := true, recurses := true, apart := false }
def EarthPartsSaid : Prop := earthPartsRow.holds Try.pinned (OpenSpec.ofChange earthPartsSpec)

/-- ITS FALSE NEIGHBOUR: 'it returns false'. Refute it at one input. -/
def earthPartsWrong : ChangeSpec := { name := "earthParts", fn := fun _ => fun
  | [d1, d2, d3, d4] => { results := [.lit (.bool false)], args := [d1, d2, d3, d4] }
  | _ => none }
def EarthPartsWrongFalsely : Prop := earthPartsRow.holds Try.pinned (OpenSpec.ofChange earthPartsWrong)

/- THE SECOND FORM. 'bulk': how many values and letters a reading holds, each counted each time it is reached (what is shared counts as often as it is met; a slice's spare places count too). A statement '..UptoSaid' is the law's where the arguments, and the package variables that the reading takes, are together of bulk at most 1048576: NARROWER than '..Said'. Prove '..Said' where nothing that the law and all that it calls make is longer than what came in: it says more and counts as full. Else prove '..UptoSaid'. A law counts once. -/
mutual
def uptoBulk {H : Type} : DataW H → Nat
  | .lit (.string bytes) => bytes.length + 1
  | .lit _ => 1
  | .nil => 1
  | .ptr d => uptoBulk d + 1
  | .slice elems spare => uptoBulkAll elems + uptoBulkAll spare + 1
  | .agg parts => uptoBulkAll parts + 1
  | .iface _ d => uptoBulk d + 1
  | .map entries => uptoBulkEntries entries + 1
  | .held _ => 1
def uptoBulkAll {H : Type} : List (DataW H) → Nat
  | [] => 0
  | d :: r => uptoBulk d + uptoBulkAll r
def uptoBulkEntries {H : Type} : List (Lit × DataW H) → Nat
  | [] => 0
  | x :: r => uptoBulkEntry x + uptoBulkEntries r
def uptoBulkEntry {H : Type} : Lit × DataW H → Nat
  | (.string bytes, d) => bytes.length + uptoBulk d + 1
  | (_, d) => uptoBulk d + 1
 end
def uptoSmall : (H : Type) → List (DataW H) → Bool := fun _ ds => decide (uptoBulkAll ds ≤ 1048576)
def OpenSpec.upto (s : _root_.Go.ChangeSpec) : _root_.Go.OpenSpec := { _root_.Go.OpenSpec.ofChange s with cond := some uptoSmall }

/-- 'moonpoollaw02.EarthValues', WHERE WHAT IT READS IS OF BULK AT MOST 1048576: true; the input reads as it did. -/
def earthValuesUptoRow : OpenClaim := { program := "ytjemcdjigeijbaa", sum := "4b7ba5ef50489e7ec30c4d0392ea37332595576515d2d091e7bb47fa222edef7", func := "moonpool/moonpoollaw02.EarthValues", spec := "earthValues", unfollowed := true, recurses := true, apart := false, narrowed := true }
def EarthValuesUptoSaid : Prop := earthValuesUptoRow.holds Try.pinned (OpenSpec.upto earthValuesSpec)

/-- 'moonpoollaw02.EarthOrder', WHERE WHAT IT READS IS OF BULK AT MOST 1048576: true; the input reads as it did. -/
def earthOrderUptoRow : OpenClaim := { program := "ytjemcdjigeijbaa", sum := "4b7ba5ef50489e7ec30c4d0392ea37332595576515d2d091e7bb47fa222edef7", func := "moonpool/moonpoollaw02.EarthOrder", spec := "earthOrder", unfollowed := true, recurses := true, apart := false, narrowed := true }
def EarthOrderUptoSaid : Prop := earthOrderUptoRow.holds Try.pinned (OpenSpec.upto earthOrderSpec)

/-- 'moonpoollaw02.EarthParts', WHERE WHAT IT READS IS OF BULK AT MOST 1048576: true; the input reads as it did. -/
def earthPartsUptoRow : OpenClaim := { program := "ytjemcdjigeijbaa", sum := "4b7ba5ef50489e7ec30c4d0392ea37332595576515d2d091e7bb47fa222edef7", func := "moonpool/moonpoollaw02.EarthParts", spec := "earthParts", unfollowed := true, recurses := true, apart := false, narrowed := true }
def EarthPartsUptoSaid : Prop := earthPartsUptoRow.holds Try.pinned (OpenSpec.upto earthPartsSpec)

end Rows
end Go.Proofs.Ytjemcdjigeijbaa
