/-
  No cell of these rows narrows 'for every input' (looked for: loops, veiled, ifaces, maps, wideKeys, modest, calm, conditions, laid).
  DERIVED. THE GIVEN ROWS OF THIS SEAT. 8 by the template 'for every input the law returns true; each argument reads behind the call as it read before'; 0 by the template 'total and deterministic' (their statements: YtdjmidoegidlbaaTotals.lean).
  GIVEN WITH THE SEED: the statements are not yours to turn. If you find one false, say at which input.
  Laid BY PROGRAM, IN A SANDBOX (cutbox-rows.mjs): the forced cells as the released guide's own fill.sh prints them over the translation 3ee96494fcf170b7… (all of the seat's roots in one cut). By AI agents, Wed Nov 11 2026. No macro, syntax, notation, axiom, sorry.
-/
import Derived.Test.YtdjmidoegidlbaaChecked
import GoSem.Claim
import GoSem.ClaimJoined
import GoSem.ClaimMapViews
import Derived.JoinedTies
import Derived.KernelRfl
namespace Go.Proofs.Ytdjmidoegidlbaa
/- THE CELL 'sum', in the pinned program and in every row, IS THE sha256 OF THE DUMP (.gsa) THAT YtdjmidoegidlbaaProg.lean LOADS. Nothing in Lean hashes anything: it is a label: what it is worth is what the hold of that sum in a sandbox is worth. -/
noncomputable def Try.pinned : Pinned := { name := "ytdjmidoegidlbaa", sum := "3ee96494fcf170b7a42f8bd95ab1925099a6f075bfe76b50e2a76ea80ee99626", checked := Try.checked }
namespace Rows
def none {H : Type} : Left H := { results := [], args := [] }

/-- 'moonpoollaw06.KickChecks': WHATEVER THE INPUT: true; the input reads as it did. -/
def kickChecksSpec : ChangeSpec := { name := "kickChecks", fn := fun _ => fun
  | [d1, d2, d3, d4, d5, d6] => { results := [.lit (.bool true)], args := [d1, d2, d3, d4, d5, d6] }
  | _ => none }
def kickChecksRow : OpenClaim := { program := "ytdjmidoegidlbaa", sum := "3ee96494fcf170b7a42f8bd95ab1925099a6f075bfe76b50e2a76ea80ee99626", func := "moonpool/moonpoollaw06.KickChecks", spec := "kickChecks", unfollowed := true, recurses := true, apart := false }
def KickChecksSaid : Prop := kickChecksRow.holds Try.pinned (OpenSpec.ofChange kickChecksSpec)

/-- ITS FALSE NEIGHBOUR: 'it returns false'. Refute it at one input. -/
def kickChecksWrong : ChangeSpec := { name := "kickChecks", fn := fun _ => fun
  | [d1, d2, d3, d4, d5, d6] => { results := [.lit (.bool false)], args := [d1, d2, d3, d4, d5, d6] }
  | _ => none }
def KickChecksWrongFalsely : Prop := kickChecksRow.holds Try.pinned (OpenSpec.ofChange kickChecksWrong)

/-- 'moonpoollaw06.KickPossible': WHATEVER THE INPUT: true; the input reads as it did. -/
def kickPossibleSpec : ChangeSpec := { name := "kickPossible", fn := fun _ => fun
  | [d1, d2, d3, d4, d5, d6, d7] => { results := [.lit (.bool true)], args := [d1, d2, d3, d4, d5, d6, d7] }
  | _ => none }
def kickPossibleRow : OpenClaim := { program := "ytdjmidoegidlbaa", sum := "3ee96494fcf170b7a42f8bd95ab1925099a6f075bfe76b50e2a76ea80ee99626", func := "moonpool/moonpoollaw06.KickPossible", spec := "kickPossible", unfollowed := true, recurses := true, apart := false }
def KickPossibleSaid : Prop := kickPossibleRow.holds Try.pinned (OpenSpec.ofChange kickPossibleSpec)

/-- ITS FALSE NEIGHBOUR: 'it returns false'. Refute it at one input. -/
def kickPossibleWrong : ChangeSpec := { name := "kickPossible", fn := fun _ => fun
  | [d1, d2, d3, d4, d5, d6, d7] => { results := [.lit (.bool false)], args := [d1, d2, d3, d4, d5, d6, d7] }
  | _ => none }
def KickPossibleWrongFalsely : Prop := kickPossibleRow.holds Try.pinned (OpenSpec.ofChange kickPossibleWrong)

/-- 'moonpoollaw06.KickLates': WHATEVER THE INPUT: true; the input reads as it did. -/
def kickLatesSpec : ChangeSpec := { name := "kickLates", fn := fun _ => fun
  | [d1, d2, d3, d4, d5] => { results := [.lit (.bool true)], args := [d1, d2, d3, d4, d5] }
  | _ => none }
def kickLatesRow : OpenClaim := { program := "ytdjmidoegidlbaa", sum := "3ee96494fcf170b7a42f8bd95ab1925099a6f075bfe76b50e2a76ea80ee99626", func := "moonpool/moonpoollaw06.KickLates", spec := "kickLates", unfollowed := true, recurses := true, apart := false }
def KickLatesSaid : Prop := kickLatesRow.holds Try.pinned (OpenSpec.ofChange kickLatesSpec)

/-- ITS FALSE NEIGHBOUR: 'it returns false'. Refute it at one input. -/
def kickLatesWrong : ChangeSpec := { name := "kickLates", fn := fun _ => fun
  | [d1, d2, d3, d4, d5] => { results := [.lit (.bool false)], args := [d1, d2, d3, d4, d5] }
  | _ => none }
def KickLatesWrongFalsely : Prop := kickLatesRow.holds Try.pinned (OpenSpec.ofChange kickLatesWrong)

/-- 'moonpoollaw06.KickFalse': WHATEVER THE INPUT: true; the input reads as it did. -/
def kickFalseSpec : ChangeSpec := { name := "kickFalse", fn := fun _ => fun
  | [d1, d2] => { results := [.lit (.bool true)], args := [d1, d2] }
  | _ => none }
def kickFalseRow : OpenClaim := { program := "ytdjmidoegidlbaa", sum := "3ee96494fcf170b7a42f8bd95ab1925099a6f075bfe76b50e2a76ea80ee99626", func := "moonpool/moonpoollaw06.KickFalse", spec := "kickFalse", unfollowed := true, recurses := true, apart := false }
def KickFalseSaid : Prop := kickFalseRow.holds Try.pinned (OpenSpec.ofChange kickFalseSpec)

/-- ITS FALSE NEIGHBOUR: 'it returns false'. Refute it at one input. -/
def kickFalseWrong : ChangeSpec := { name := "kickFalse", fn := fun _ => fun
  | [d1, d2] => { results := [.lit (.bool false)], args := [d1, d2] }
  | _ => none }
def KickFalseWrongFalsely : Prop := kickFalseRow.holds Try.pinned (OpenSpec.ofChange kickFalseWrong)

/-- 'moonpoollaw06.KickFinds': WHATEVER THE INPUT: true; the input reads as it did. -/
def kickFindsSpec : ChangeSpec := { name := "kickFinds", fn := fun _ => fun
  | [d] => { results := [.lit (.bool true)], args := [d] }
  | _ => none }
def kickFindsRow : OpenClaim := { program := "ytdjmidoegidlbaa", sum := "3ee96494fcf170b7a42f8bd95ab1925099a6f075bfe76b50e2a76ea80ee99626", func := "moonpool/moonpoollaw06.KickFinds", spec := "kickFinds", unfollowed := true, recurses := true, apart := false }
def KickFindsSaid : Prop := kickFindsRow.holds Try.pinned (OpenSpec.ofChange kickFindsSpec)

/-- ITS FALSE NEIGHBOUR: 'it returns false'. Refute it at one input. -/
def kickFindsWrong : ChangeSpec := { name := "kickFinds", fn := fun _ => fun
  | [d] => { results := [.lit (.bool false)], args := [d] }
  | _ => none }
def KickFindsWrongFalsely : Prop := kickFindsRow.holds Try.pinned (OpenSpec.ofChange kickFindsWrong)

/-- 'moonpoollaw06.KickOrder': WHATEVER THE INPUT: true; the input reads as it did. -/
def kickOrderSpec : ChangeSpec := { name := "kickOrder", fn := fun _ => fun
  | [d1, d2] => { results := [.lit (.bool true)], args := [d1, d2] }
  | _ => none }
def kickOrderRow : OpenClaim := { program := "ytdjmidoegidlbaa", sum := "3ee96494fcf170b7a42f8bd95ab1925099a6f075bfe76b50e2a76ea80ee99626", func := "moonpool/moonpoollaw06.KickOrder", spec := "kickOrder", unfollowed := true, recurses := true, apart := false }
def KickOrderSaid : Prop := kickOrderRow.holds Try.pinned (OpenSpec.ofChange kickOrderSpec)

/-- ITS FALSE NEIGHBOUR: 'it returns false'. Refute it at one input. -/
def kickOrderWrong : ChangeSpec := { name := "kickOrder", fn := fun _ => fun
  | [d1, d2] => { results := [.lit (.bool false)], args := [d1, d2] }
  | _ => none }
def KickOrderWrongFalsely : Prop := kickOrderRow.holds Try.pinned (OpenSpec.ofChange kickOrderWrong)

/-- 'moonpoollaw06.KickSums': WHATEVER THE INPUT: true; the input reads as it did. -/
def kickSumsSpec : ChangeSpec := { name := "kickSums", fn := fun _ => fun
  | [d1, d2] => { results := [.lit (.bool true)], args := [d1, d2] }
  | _ => none }
def kickSumsRow : OpenClaim := { program := "ytdjmidoegidlbaa", sum := "3ee96494fcf170b7a42f8bd95ab1925099a6f075bfe76b50e2a76ea80ee99626", func := "moonpool/moonpoollaw06.KickSums", spec := "kickSums", unfollowed := true, recurses := true, apart := false }
def KickSumsSaid : Prop := kickSumsRow.holds Try.pinned (OpenSpec.ofChange kickSumsSpec)

/-- ITS FALSE NEIGHBOUR: 'it returns false'. Refute it at one input. -/
def kickSumsWrong : ChangeSpec := { name := "kickSums", fn := fun _ => fun
  | [d1, d2] => { results := [.lit (.bool false)], args := [d1, d2] }
  | _ => none }
def KickSumsWrongFalsely : Prop := kickSumsRow.holds Try.pinned (OpenSpec.ofChange kickSumsWrong)

/-- 'moonpoollaw06.KickEncloses': WHATEVER THE INPUT: true; the input reads as it did. -/
def kickEnclosesSpec : ChangeSpec := { name := "kickEncloses", fn := fun _ => fun
  | [d1, d2, d3, d4] => { results := [.lit (.bool true)], args := [d1, d2, d3, d4] }
  | _ => none }
def kickEnclosesRow : OpenClaim := { program := "ytdjmidoegidlbaa", sum := "3ee96494fcf170b7a42f8bd95ab1925099a6f075bfe76b50e2a76ea80ee99626", func := "moonpool/moonpoollaw06.KickEncloses", spec := "kickEncloses", unfollowed := true, recurses := true, apart := false }
def KickEnclosesSaid : Prop := kickEnclosesRow.holds Try.pinned (OpenSpec.ofChange kickEnclosesSpec)

/-- ITS FALSE NEIGHBOUR: 'it returns false'. Refute it at one input. -/
def kickEnclosesWrong : ChangeSpec := { name := "kickEncloses", fn := fun _ => fun
  | [d1, d2, d3, d4] => { results := [.lit (.bool false)], args := [d1, d2, d3, d4] }
  | _ => none }
def KickEnclosesWrongFalsely : Prop := kickEnclosesRow.holds Try.pinned (OpenSpec.ofChange kickEnclosesWrong)

/- THE SECOND FORM. 'bulk': how many values and letters a reading holds, each counted each time it is reached (what is shared counts as often as it is met; a slice's spare places count too). A statement '..UptoSaid' is the law's where the arguments, and the package variables that the reading takes, are together of bulk at most 1048576: NARROWER than '..Said'. Prove '..Said' where nothing that the law and all that it calls make is longer than what came in: it says more and counts as full. Else prove '..UptoSaid'. A law counts once. -/
mutual
def uptoBulk {H : Type} : DataW H → Nat
  | .lit (.string bytes) => bytes.length + 1
  | .lit _ => 1
  | .nil => 1
  | .ptr d => uptoBulk d + 1
  | .slice elems spare => uptoBulkAll elems + uptoBulkAll spare + 1
  | .agg parts => uptoBulkAll parts + 1
  | .iface _ d => uptoBulk d + 1
  | .map entries => uptoBulkEntries entries + 1
  | .held _ => 1
def uptoBulkAll {H : Type} : List (DataW H) → Nat
  | [] => 0
  | d :: r => uptoBulk d + uptoBulkAll r
def uptoBulkEntries {H : Type} : List (Lit × DataW H) → Nat
  | [] => 0
  | x :: r => uptoBulkEntry x + uptoBulkEntries r
def uptoBulkEntry {H : Type} : Lit × DataW H → Nat
  | (.string bytes, d) => bytes.length + uptoBulk d + 1
  | (_, d) => uptoBulk d + 1
 end
def uptoSmall : (H : Type) → List (DataW H) → Bool := fun _ ds => decide (uptoBulkAll ds ≤ 1048576)
def OpenSpec.upto (s : _root_.Go.ChangeSpec) : _root_.Go.OpenSpec := { _root_.Go.OpenSpec.ofChange s with cond := some uptoSmall }

/-- 'moonpoollaw06.KickChecks', WHERE WHAT IT READS IS OF BULK AT MOST 1048576: true; the input reads as it did. -/
def kickChecksUptoRow : OpenClaim := { program := "ytdjmidoegidlbaa", sum := "3ee96494fcf170b7a42f8bd95ab1925099a6f075bfe76b50e2a76ea80ee99626", func := "moonpool/moonpoollaw06.KickChecks", spec := "kickChecks", unfollowed := true, recurses := true, apart := false, narrowed := true }
def KickChecksUptoSaid : Prop := kickChecksUptoRow.holds Try.pinned (OpenSpec.upto kickChecksSpec)

/-- 'moonpoollaw06.KickPossible', WHERE WHAT IT READS IS OF BULK AT MOST 1048576: true; the input reads as it did. -/
def kickPossibleUptoRow : OpenClaim := { program := "ytdjmidoegidlbaa", sum := "3ee96494fcf170b7a42f8bd95ab1925099a6f075bfe76b50e2a76ea80ee99626", func := "moonpool/moonpoollaw06.KickPossible", spec := "kickPossible", unfollowed := true, recurses := true, apart := false, narrowed := true }
def KickPossibleUptoSaid : Prop := kickPossibleUptoRow.holds Try.pinned (OpenSpec.upto kickPossibleSpec)

/-- 'moonpoollaw06.KickLates', WHERE WHAT IT READS IS OF BULK AT MOST 1048576: true; the input reads as it did. -/
def kickLatesUptoRow : OpenClaim := { program := "ytdjmidoegidlbaa", sum := "3ee96494fcf170b7a42f8bd95ab1925099a6f075bfe76b50e2a76ea80ee99626", func := "moonpool/moonpoollaw06.KickLates", spec := "kickLates", unfollowed := true, recurses := true, apart := false, narrowed := true }
def KickLatesUptoSaid : Prop := kickLatesUptoRow.holds Try.pinned (OpenSpec.upto kickLatesSpec)

/-- 'moonpoollaw06.KickFalse', WHERE WHAT IT READS IS OF BULK AT MOST 1048576: true; the input reads as it did. -/
def kickFalseUptoRow : OpenClaim := { program := "ytdjmidoegidlbaa", sum := "3ee96494fcf170b7a42f8bd95ab1925099a6f075bfe76b50e2a76ea80ee99626", func := "moonpool/moonpoollaw06.KickFalse", spec := "kickFalse", unfollowed := true, recurses := true, apart := false, narrowed := true }
def KickFalseUptoSaid : Prop := kickFalseUptoRow.holds Try.pinned (OpenSpec.upto kickFalseSpec)

/-- 'moonpoollaw06.KickFinds', WHERE WHAT IT READS IS OF BULK AT MOST 1048576: true; the input reads as it did. -/
def kickFindsUptoRow : OpenClaim := { program := "ytdjmidoegidlbaa", sum := "3ee96494fcf170b7a42f8bd95ab1925099a6f075bfe76b50e2a76ea80ee99626", func := "moonpool/moonpoollaw06.KickFinds", spec := "kickFinds", unfollowed := true, recurses := true, apart := false, narrowed := true }
def KickFindsUptoSaid : Prop := kickFindsUptoRow.holds Try.pinned (OpenSpec.upto kickFindsSpec)

/-- 'moonpoollaw06.KickOrder', WHERE WHAT IT READS IS OF BULK AT MOST 1048576: true; the input reads as it did. -/
def kickOrderUptoRow : OpenClaim := { program := "ytdjmidoegidlbaa", sum := "3ee96494fcf170b7a42f8bd95ab1925099a6f075bfe76b50e2a76ea80ee99626", func := "moonpool/moonpoollaw06.KickOrder", spec := "kickOrder", unfollowed := true, recurses := true, apart := false, narrowed := true }
def KickOrderUptoSaid : Prop := kickOrderUptoRow.holds Try.pinned (OpenSpec.upto kickOrderSpec)

/-- 'moonpoollaw06.KickSums', WHERE WHAT IT READS IS OF BULK AT MOST 1048576: true; the input reads as it did. -/
def kickSumsUptoRow : OpenClaim := { program := "ytdjmidoegidlbaa", sum := "3ee96494fcf170b7a42f8bd95ab1925099a6f075bfe76b50e2a76ea80ee99626", func := "moonpool/moonpoollaw06.KickSums", spec := "kickSums", unfollowed := true, recurses := true, apart := false, narrowed := true }
def KickSumsUptoSaid : Prop := kickSumsUptoRow.holds Try.pinned (OpenSpec.upto kickSumsSpec)

/-- 'moonpoollaw06.KickEncloses', WHERE WHAT IT READS IS OF BULK AT MOST 1048576: true; the input reads as it did. -/
def kickEnclosesUptoRow : OpenClaim := { program := "ytdjmidoegidlbaa", sum := "3ee96494fcf170b7a42f8bd95ab1925099a6f075bfe76b50e2a76ea80ee99626", func := "moonpool/moonpoollaw06.KickEncloses", spec := "kickEncloses", unfollowed := true, recurses := true, apart := false, narrowed := true }
def KickEnclosesUptoSaid : Prop := kickEnclosesUptoRow.holds Try.pinned (OpenSpec.upto kickEnclosesSpec)

end Rows
end Go.Proofs.Ytdjmidoegidlbaa
