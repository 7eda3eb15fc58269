/-
  No cell of these rows narrows 'for every input' (looked for: loops, veiled, ifaces, maps, wideKeys, modest, calm, conditions, laid).
  DERIVED. THE GIVEN ROWS OF THIS SEAT. 5 by the template 'for every input the law returns true; each argument reads behind the call as it read before'; 0 by the template 'total and deterministic' (their statements: YtlhickjlcmiknaaTotals.lean).
  GIVEN WITH THE SEED: the statements are not yours to turn. If you find one false, say at which input.
  Laid BY PROGRAM, IN A SANDBOX (cutbox-rows.mjs): the forced cells as the released guide's own fill.sh prints them over the translation 8fb2dd7ace22f913… (all of the seat's roots in one cut). By AI agents, Wed Nov 11 2026. No macro, syntax, notation, axiom, sorry.
-/
import Derived.Test.YtlhickjlcmiknaaChecked
import GoSem.Claim
import GoSem.ClaimJoined
import GoSem.ClaimMapViews
import Derived.JoinedTies
import Derived.KernelRfl
namespace Go.Proofs.Ytlhickjlcmiknaa
/- THE CELL 'sum', in the pinned program and in every row, IS THE sha256 OF THE DUMP (.gsa) THAT YtlhickjlcmiknaaProg.lean LOADS. Nothing in Lean hashes anything: it is a label: what it is worth is what the hold of that sum in a sandbox is worth. -/
noncomputable def Try.pinned : Pinned := { name := "ytlhickjlcmiknaa", sum := "8fb2dd7ace22f913f403c5dea0f36b6e72a4985072ef1922349f28a536c9e66e", checked := Try.checked }
namespace Rows
def none {H : Type} : Left H := { results := [], args := [] }

/-- 'laws.FnExactChildrenOf': WHATEVER THE INPUT: true; the input reads as it did. -/
def fnExactChildrenOfSpec : ChangeSpec := { name := "fnExactChildrenOf", fn := fun _ => fun
  | [d1, d2, d3] => { results := [.lit (.bool true)], args := [d1, d2, d3] }
  | _ => none }
def fnExactChildrenOfRow : OpenClaim := { program := "ytlhickjlcmiknaa", sum := "8fb2dd7ace22f913f403c5dea0f36b6e72a4985072ef1922349f28a536c9e66e", func := "loop.example/g01082/laws.FnExactChildrenOf", spec := "fnExactChildrenOf", unfollowed := true, recurses := true, apart := false }
def FnExactChildrenOfSaid : Prop := fnExactChildrenOfRow.holds Try.pinned (OpenSpec.ofChange fnExactChildrenOfSpec)

/-- ITS FALSE NEIGHBOUR: 'it returns false'. Refute it at one input. -/
def fnExactChildrenOfWrong : ChangeSpec := { name := "fnExactChildrenOf", fn := fun _ => fun
  | [d1, d2, d3] => { results := [.lit (.bool false)], args := [d1, d2, d3] }
  | _ => none }
def FnExactChildrenOfWrongFalsely : Prop := fnExactChildrenOfRow.holds Try.pinned (OpenSpec.ofChange fnExactChildrenOfWrong)

/-- 'laws.FnExactIsRedex': WHATEVER THE INPUT: true; the input reads as it did. -/
def fnExactIsRedexSpec : ChangeSpec := { name := "fnExactIsRedex", fn := fun _ => fun
  | [d1, d2] => { results := [.lit (.bool true)], args := [d1, d2] }
  | _ => none }
def fnExactIsRedexRow : OpenClaim := { program := "ytlhickjlcmiknaa", sum := "8fb2dd7ace22f913f403c5dea0f36b6e72a4985072ef1922349f28a536c9e66e", func := "loop.example/g01082/laws.FnExactIsRedex", spec := "fnExactIsRedex", unfollowed := true, recurses := true, apart := false }
def FnExactIsRedexSaid : Prop := fnExactIsRedexRow.holds Try.pinned (OpenSpec.ofChange fnExactIsRedexSpec)

/-- ITS FALSE NEIGHBOUR: 'it returns false'. Refute it at one input. -/
def fnExactIsRedexWrong : ChangeSpec := { name := "fnExactIsRedex", fn := fun _ => fun
  | [d1, d2] => { results := [.lit (.bool false)], args := [d1, d2] }
  | _ => none }
def FnExactIsRedexWrongFalsely : Prop := fnExactIsRedexRow.holds Try.pinned (OpenSpec.ofChange fnExactIsRedexWrong)

/-- 'laws.FnExactPointsOf': WHATEVER THE INPUT: true; the input reads as it did. -/
def fnExactPointsOfSpec : ChangeSpec := { name := "fnExactPointsOf", fn := fun _ => fun
  | [d1, d2, d3] => { results := [.lit (.bool true)], args := [d1, d2, d3] }
  | _ => none }
def fnExactPointsOfRow : OpenClaim := { program := "ytlhickjlcmiknaa", sum := "8fb2dd7ace22f913f403c5dea0f36b6e72a4985072ef1922349f28a536c9e66e", func := "loop.example/g01082/laws.FnExactPointsOf", spec := "fnExactPointsOf", unfollowed := true, recurses := true, apart := false }
def FnExactPointsOfSaid : Prop := fnExactPointsOfRow.holds Try.pinned (OpenSpec.ofChange fnExactPointsOfSpec)

/-- ITS FALSE NEIGHBOUR: 'it returns false'. Refute it at one input. -/
def fnExactPointsOfWrong : ChangeSpec := { name := "fnExactPointsOf", fn := fun _ => fun
  | [d1, d2, d3] => { results := [.lit (.bool false)], args := [d1, d2, d3] }
  | _ => none }
def FnExactPointsOfWrongFalsely : Prop := fnExactPointsOfRow.holds Try.pinned (OpenSpec.ofChange fnExactPointsOfWrong)

/-- 'laws.FnExactIsDiscrete': WHATEVER THE INPUT: true; the input reads as it did. -/
def fnExactIsDiscreteSpec : ChangeSpec := { name := "fnExactIsDiscrete", fn := fun _ => fun
  | [d1, d2] => { results := [.lit (.bool true)], args := [d1, d2] }
  | _ => none }
def fnExactIsDiscreteRow : OpenClaim := { program := "ytlhickjlcmiknaa", sum := "8fb2dd7ace22f913f403c5dea0f36b6e72a4985072ef1922349f28a536c9e66e", func := "loop.example/g01082/laws.FnExactIsDiscrete", spec := "fnExactIsDiscrete", unfollowed := true, recurses := true, apart := false }
def FnExactIsDiscreteSaid : Prop := fnExactIsDiscreteRow.holds Try.pinned (OpenSpec.ofChange fnExactIsDiscreteSpec)

/-- ITS FALSE NEIGHBOUR: 'it returns false'. Refute it at one input. -/
def fnExactIsDiscreteWrong : ChangeSpec := { name := "fnExactIsDiscrete", fn := fun _ => fun
  | [d1, d2] => { results := [.lit (.bool false)], args := [d1, d2] }
  | _ => none }
def FnExactIsDiscreteWrongFalsely : Prop := fnExactIsDiscreteRow.holds Try.pinned (OpenSpec.ofChange fnExactIsDiscreteWrong)

/-- 'laws.FnExactIsRenaming': WHATEVER THE INPUT: true; the input reads as it did. -/
def fnExactIsRenamingSpec : ChangeSpec := { name := "fnExactIsRenaming", fn := fun _ => fun
  | [d1, d2] => { results := [.lit (.bool true)], args := [d1, d2] }
  | _ => none }
def fnExactIsRenamingRow : OpenClaim := { program := "ytlhickjlcmiknaa", sum := "8fb2dd7ace22f913f403c5dea0f36b6e72a4985072ef1922349f28a536c9e66e", func := "loop.example/g01082/laws.FnExactIsRenaming", spec := "fnExactIsRenaming", unfollowed := true, recurses := true, apart := false }
def FnExactIsRenamingSaid : Prop := fnExactIsRenamingRow.holds Try.pinned (OpenSpec.ofChange fnExactIsRenamingSpec)

/-- ITS FALSE NEIGHBOUR: 'it returns false'. Refute it at one input. -/
def fnExactIsRenamingWrong : ChangeSpec := { name := "fnExactIsRenaming", fn := fun _ => fun
  | [d1, d2] => { results := [.lit (.bool false)], args := [d1, d2] }
  | _ => none }
def FnExactIsRenamingWrongFalsely : Prop := fnExactIsRenamingRow.holds Try.pinned (OpenSpec.ofChange fnExactIsRenamingWrong)

/- THE SECOND FORM. 'bulk': how many values and letters a reading holds, each counted each time it is reached (what is shared counts as often as it is met; a slice's spare places count too). A statement '..UptoSaid' is the law's where the arguments, and the package variables that the reading takes, are together of bulk at most 1048576: NARROWER than '..Said'. Prove '..Said' where nothing that the law and all that it calls make is longer than what came in: it says more and counts as full. Else prove '..UptoSaid'. A law counts once. -/
mutual
def uptoBulk {H : Type} : DataW H → Nat
  | .lit (.string bytes) => bytes.length + 1
  | .lit _ => 1
  | .nil => 1
  | .ptr d => uptoBulk d + 1
  | .slice elems spare => uptoBulkAll elems + uptoBulkAll spare + 1
  | .agg parts => uptoBulkAll parts + 1
  | .iface _ d => uptoBulk d + 1
  | .map entries => uptoBulkEntries entries + 1
  | .held _ => 1
def uptoBulkAll {H : Type} : List (DataW H) → Nat
  | [] => 0
  | d :: r => uptoBulk d + uptoBulkAll r
def uptoBulkEntries {H : Type} : List (Lit × DataW H) → Nat
  | [] => 0
  | x :: r => uptoBulkEntry x + uptoBulkEntries r
def uptoBulkEntry {H : Type} : Lit × DataW H → Nat
  | (.string bytes, d) => bytes.length + uptoBulk d + 1
  | (_, d) => uptoBulk d + 1
 end
def uptoSmall : (H : Type) → List (DataW H) → Bool := fun _ ds => decide (uptoBulkAll ds ≤ 1048576)
def OpenSpec.upto (s : _root_.Go.ChangeSpec) : _root_.Go.OpenSpec := { _root_.Go.OpenSpec.ofChange s with cond := some uptoSmall }

/-- 'laws.FnExactChildrenOf', WHERE WHAT IT READS IS OF BULK AT MOST 1048576: true; the input reads as it did. -/
def fnExactChildrenOfUptoRow : OpenClaim := { program := "ytlhickjlcmiknaa", sum := "8fb2dd7ace22f913f403c5dea0f36b6e72a4985072ef1922349f28a536c9e66e", func := "loop.example/g01082/laws.FnExactChildrenOf", spec := "fnExactChildrenOf", unfollowed := true, recurses := true, apart := false, narrowed := true }
def FnExactChildrenOfUptoSaid : Prop := fnExactChildrenOfUptoRow.holds Try.pinned (OpenSpec.upto fnExactChildrenOfSpec)

/-- 'laws.FnExactIsRedex', WHERE WHAT IT READS IS OF BULK AT MOST 1048576: true; the input reads as it did. -/
def fnExactIsRedexUptoRow : OpenClaim := { program := "ytlhickjlcmiknaa", sum := "8fb2dd7ace22f913f403c5dea0f36b6e72a4985072ef1922349f28a536c9e66e", func := "loop.example/g01082/laws.FnExactIsRedex", spec := "fnExactIsRedex", unfollowed := true, recurses := true, apart := false, narrowed := true }
def FnExactIsRedexUptoSaid : Prop := fnExactIsRedexUptoRow.holds Try.pinned (OpenSpec.upto fnExactIsRedexSpec)

/-- 'laws.FnExactPointsOf', WHERE WHAT IT READS IS OF BULK AT MOST 1048576: true; the input reads as it did. -/
def fnExactPointsOfUptoRow : OpenClaim := { program := "ytlhickjlcmiknaa", sum := "8fb2dd7ace22f913f403c5dea0f36b6e72a4985072ef1922349f28a536c9e66e", func := "loop.example/g01082/laws.FnExactPointsOf", spec := "fnExactPointsOf", unfollowed := true, recurses := true, apart := false, narrowed := true }
def FnExactPointsOfUptoSaid : Prop := fnExactPointsOfUptoRow.holds Try.pinned (OpenSpec.upto fnExactPointsOfSpec)

/-- 'laws.FnExactIsDiscrete', WHERE WHAT IT READS IS OF BULK AT MOST 1048576: true; the input reads as it did. -/
def fnExactIsDiscreteUptoRow : OpenClaim := { program := "ytlhickjlcmiknaa", sum := "8fb2dd7ace22f913f403c5dea0f36b6e72a4985072ef1922349f28a536c9e66e", func := "loop.example/g01082/laws.FnExactIsDiscrete", spec := "fnExactIsDiscrete", unfollowed := true, recurses := true, apart := false, narrowed := true }
def FnExactIsDiscreteUptoSaid : Prop := fnExactIsDiscreteUptoRow.holds Try.pinned (OpenSpec.upto fnExactIsDiscreteSpec)

/-- 'laws.FnExactIsRenaming', WHERE WHAT IT READS IS OF BULK AT MOST 1048576: true; the input reads as it did. -/
def fnExactIsRenamingUptoRow : OpenClaim := { program := "ytlhickjlcmiknaa", sum := "8fb2dd7ace22f913f403c5dea0f36b6e72a4985072ef1922349f28a536c9e66e", func := "loop.example/g01082/laws.FnExactIsRenaming", spec := "fnExactIsRenaming", unfollowed := true, recurses := true, apart := false, narrowed := true }
def FnExactIsRenamingUptoSaid : Prop := fnExactIsRenamingUptoRow.holds Try.pinned (OpenSpec.upto fnExactIsRenamingSpec)

end Rows
end Go.Proofs.Ytlhickjlcmiknaa
