/-
  No cell of these rows narrows 'for every input' (looked for: loops, veiled, ifaces, maps, wideKeys, modest, calm, conditions, laid).
  DERIVED. THE GIVEN ROWS OF THIS SEAT. 15 by the template 'for every input the law returns true; each argument reads behind the call as it read before'; 0 by the template 'total and deterministic' (their statements: YtifialdkjnmfoaaTotals.lean).
  GIVEN WITH THE SEED: the statements are not yours to turn. If you find one false, say at which input.
  Laid BY PROGRAM, IN A SANDBOX (cutbox-rows.mjs): the forced cells as the released guide's own fill.sh prints them over the translation 6ca6670c37ccb605… (all of the seat's roots in one cut). By AI agents, Wed Nov 11 2026. No macro, syntax, notation, axiom, sorry.
-/
import Derived.Test.YtifialdkjnmfoaaChecked
import GoSem.Claim
import GoSem.ClaimJoined
import GoSem.ClaimMapViews
import Derived.JoinedTies
import Derived.KernelRfl
namespace Go.Proofs.Ytifialdkjnmfoaa
/- THE CELL 'sum', in the pinned program and in every row, IS THE sha256 OF THE DUMP (.gsa) THAT YtifialdkjnmfoaaProg.lean LOADS. Nothing in Lean hashes anything: it is a label: what it is worth is what the hold of that sum in a sandbox is worth. -/
noncomputable def Try.pinned : Pinned := { name := "ytifialdkjnmfoaa", sum := "6ca6670c37ccb605902121c77279cf0e97cfc6610e734596e63f885df217864a", checked := Try.checked }
namespace Rows
def none {H : Type} : Left H := { results := [], args := [] }

/-- 'laws.FnExactPointsOf': WHATEVER THE INPUT: true; the input reads as it did. -/
def fnExactPointsOfSpec : ChangeSpec := { name := "fnExactPointsOf", fn := fun _ => fun
  | [d1, d2, d3] => { results := [.lit (.bool true)], args := [d1, d2, d3] }
  | _ => none }
def fnExactPointsOfRow : OpenClaim := { program := "ytifialdkjnmfoaa", sum := "6ca6670c37ccb605902121c77279cf0e97cfc6610e734596e63f885df217864a", func := "loop.example/g01082/laws.FnExactPointsOf", spec := "fnExactPointsOf", unfollowed := true, recurses := true, apart := false }
def FnExactPointsOfSaid : Prop := fnExactPointsOfRow.holds Try.pinned (OpenSpec.ofChange fnExactPointsOfSpec)

/-- ITS FALSE NEIGHBOUR: 'it returns false'. Refute it at one input. -/
def fnExactPointsOfWrong : ChangeSpec := { name := "fnExactPointsOf", fn := fun _ => fun
  | [d1, d2, d3] => { results := [.lit (.bool false)], args := [d1, d2, d3] }
  | _ => none }
def FnExactPointsOfWrongFalsely : Prop := fnExactPointsOfRow.holds Try.pinned (OpenSpec.ofChange fnExactPointsOfWrong)

/-- 'laws.FnExactRenumberNodes': WHATEVER THE INPUT: true; the input reads as it did. -/
def fnExactRenumberNodesSpec : ChangeSpec := { name := "fnExactRenumberNodes", fn := fun _ => fun
  | [d1, d2, d3, d4] => { results := [.lit (.bool true)], args := [d1, d2, d3, d4] }
  | _ => none }
def fnExactRenumberNodesRow : OpenClaim := { program := "ytifialdkjnmfoaa", sum := "6ca6670c37ccb605902121c77279cf0e97cfc6610e734596e63f885df217864a", func := "loop.example/g01082/laws.FnExactRenumberNodes", spec := "fnExactRenumberNodes", unfollowed := true, recurses := true, apart := false }
def FnExactRenumberNodesSaid : Prop := fnExactRenumberNodesRow.holds Try.pinned (OpenSpec.ofChange fnExactRenumberNodesSpec)

/-- ITS FALSE NEIGHBOUR: 'it returns false'. Refute it at one input. -/
def fnExactRenumberNodesWrong : ChangeSpec := { name := "fnExactRenumberNodes", fn := fun _ => fun
  | [d1, d2, d3, d4] => { results := [.lit (.bool false)], args := [d1, d2, d3, d4] }
  | _ => none }
def FnExactRenumberNodesWrongFalsely : Prop := fnExactRenumberNodesRow.holds Try.pinned (OpenSpec.ofChange fnExactRenumberNodesWrong)

/-- 'laws.FnExactLinkParts': WHATEVER THE INPUT: true; the input reads as it did. -/
def fnExactLinkPartsSpec : ChangeSpec := { name := "fnExactLinkParts", fn := fun _ => fun
  | [d1, d2] => { results := [.lit (.bool true)], args := [d1, d2] }
  | _ => none }
def fnExactLinkPartsRow : OpenClaim := { program := "ytifialdkjnmfoaa", sum := "6ca6670c37ccb605902121c77279cf0e97cfc6610e734596e63f885df217864a", func := "loop.example/g01082/laws.FnExactLinkParts", spec := "fnExactLinkParts", unfollowed := true, recurses := true, apart := false }
def FnExactLinkPartsSaid : Prop := fnExactLinkPartsRow.holds Try.pinned (OpenSpec.ofChange fnExactLinkPartsSpec)

/-- ITS FALSE NEIGHBOUR: 'it returns false'. Refute it at one input. -/
def fnExactLinkPartsWrong : ChangeSpec := { name := "fnExactLinkParts", fn := fun _ => fun
  | [d1, d2] => { results := [.lit (.bool false)], args := [d1, d2] }
  | _ => none }
def FnExactLinkPartsWrongFalsely : Prop := fnExactLinkPartsRow.holds Try.pinned (OpenSpec.ofChange fnExactLinkPartsWrong)

/-- 'laws.FnExactIdentityOf': WHATEVER THE INPUT: true; the input reads as it did. -/
def fnExactIdentityOfSpec : ChangeSpec := { name := "fnExactIdentityOf", fn := fun _ => fun
  | [d1, d2] => { results := [.lit (.bool true)], args := [d1, d2] }
  | _ => none }
def fnExactIdentityOfRow : OpenClaim := { program := "ytifialdkjnmfoaa", sum := "6ca6670c37ccb605902121c77279cf0e97cfc6610e734596e63f885df217864a", func := "loop.example/g01082/laws.FnExactIdentityOf", spec := "fnExactIdentityOf", unfollowed := true, recurses := true, apart := false }
def FnExactIdentityOfSaid : Prop := fnExactIdentityOfRow.holds Try.pinned (OpenSpec.ofChange fnExactIdentityOfSpec)

/-- ITS FALSE NEIGHBOUR: 'it returns false'. Refute it at one input. -/
def fnExactIdentityOfWrong : ChangeSpec := { name := "fnExactIdentityOf", fn := fun _ => fun
  | [d1, d2] => { results := [.lit (.bool false)], args := [d1, d2] }
  | _ => none }
def FnExactIdentityOfWrongFalsely : Prop := fnExactIdentityOfRow.holds Try.pinned (OpenSpec.ofChange fnExactIdentityOfWrong)

/-- 'laws.FnExactSwapOf': WHATEVER THE INPUT: true; the input reads as it did. -/
def fnExactSwapOfSpec : ChangeSpec := { name := "fnExactSwapOf", fn := fun _ => fun
  | [d1, d2] => { results := [.lit (.bool true)], args := [d1, d2] }
  | _ => none }
def fnExactSwapOfRow : OpenClaim := { program := "ytifialdkjnmfoaa", sum := "6ca6670c37ccb605902121c77279cf0e97cfc6610e734596e63f885df217864a", func := "loop.example/g01082/laws.FnExactSwapOf", spec := "fnExactSwapOf", apart := false }
def FnExactSwapOfSaid : Prop := fnExactSwapOfRow.holds Try.pinned (OpenSpec.ofChange fnExactSwapOfSpec)

/-- ITS FALSE NEIGHBOUR: 'it returns false'. Refute it at one input. -/
def fnExactSwapOfWrong : ChangeSpec := { name := "fnExactSwapOf", fn := fun _ => fun
  | [d1, d2] => { results := [.lit (.bool false)], args := [d1, d2] }
  | _ => none }
def FnExactSwapOfWrongFalsely : Prop := fnExactSwapOfRow.holds Try.pinned (OpenSpec.ofChange fnExactSwapOfWrong)

/-- 'laws.FnExactIonOf': WHATEVER THE INPUT: true; the input reads as it did. -/
def fnExactIonOfSpec : ChangeSpec := { name := "fnExactIonOf", fn := fun _ => fun
  | [d1, d2, d3] => { results := [.lit (.bool true)], args := [d1, d2, d3] }
  | _ => none }
def fnExactIonOfRow : OpenClaim := { program := "ytifialdkjnmfoaa", sum := "6ca6670c37ccb605902121c77279cf0e97cfc6610e734596e63f885df217864a", func := "loop.example/g01082/laws.FnExactIonOf", spec := "fnExactIonOf", unfollowed := true, recurses := true, apart := false }
def FnExactIonOfSaid : Prop := fnExactIonOfRow.holds Try.pinned (OpenSpec.ofChange fnExactIonOfSpec)

/-- ITS FALSE NEIGHBOUR: 'it returns false'. Refute it at one input. -/
def fnExactIonOfWrong : ChangeSpec := { name := "fnExactIonOf", fn := fun _ => fun
  | [d1, d2, d3] => { results := [.lit (.bool false)], args := [d1, d2, d3] }
  | _ => none }
def FnExactIonOfWrongFalsely : Prop := fnExactIonOfRow.holds Try.pinned (OpenSpec.ofChange fnExactIonOfWrong)

/-- 'laws.FnExactAtomOf': WHATEVER THE INPUT: true; the input reads as it did. -/
def fnExactAtomOfSpec : ChangeSpec := { name := "fnExactAtomOf", fn := fun _ => fun
  | [d1, d2, d3] => { results := [.lit (.bool true)], args := [d1, d2, d3] }
  | _ => none }
def fnExactAtomOfRow : OpenClaim := { program := "ytifialdkjnmfoaa", sum := "6ca6670c37ccb605902121c77279cf0e97cfc6610e734596e63f885df217864a", func := "loop.example/g01082/laws.FnExactAtomOf", spec := "fnExactAtomOf", unfollowed := true, recurses := true, apart := false }
def FnExactAtomOfSaid : Prop := fnExactAtomOfRow.holds Try.pinned (OpenSpec.ofChange fnExactAtomOfSpec)

/-- ITS FALSE NEIGHBOUR: 'it returns false'. Refute it at one input. -/
def fnExactAtomOfWrong : ChangeSpec := { name := "fnExactAtomOf", fn := fun _ => fun
  | [d1, d2, d3] => { results := [.lit (.bool false)], args := [d1, d2, d3] }
  | _ => none }
def FnExactAtomOfWrongFalsely : Prop := fnExactAtomOfRow.holds Try.pinned (OpenSpec.ofChange fnExactAtomOfWrong)

/-- 'laws.FnExactSubstitutionOf': WHATEVER THE INPUT: true; the input reads as it did. -/
def fnExactSubstitutionOfSpec : ChangeSpec := { name := "fnExactSubstitutionOf", fn := fun _ => fun
  | [d1, d2] => { results := [.lit (.bool true)], args := [d1, d2] }
  | _ => none }
def fnExactSubstitutionOfRow : OpenClaim := { program := "ytifialdkjnmfoaa", sum := "6ca6670c37ccb605902121c77279cf0e97cfc6610e734596e63f885df217864a", func := "loop.example/g01082/laws.FnExactSubstitutionOf", spec := "fnExactSubstitutionOf", unfollowed := true, recurses := true, apart := false }
def FnExactSubstitutionOfSaid : Prop := fnExactSubstitutionOfRow.holds Try.pinned (OpenSpec.ofChange fnExactSubstitutionOfSpec)

/-- ITS FALSE NEIGHBOUR: 'it returns false'. Refute it at one input. -/
def fnExactSubstitutionOfWrong : ChangeSpec := { name := "fnExactSubstitutionOf", fn := fun _ => fun
  | [d1, d2] => { results := [.lit (.bool false)], args := [d1, d2] }
  | _ => none }
def FnExactSubstitutionOfWrongFalsely : Prop := fnExactSubstitutionOfRow.holds Try.pinned (OpenSpec.ofChange fnExactSubstitutionOfWrong)

/-- 'laws.FnExactIsPermutation': WHATEVER THE INPUT: true; the input reads as it did. -/
def fnExactIsPermutationSpec : ChangeSpec := { name := "fnExactIsPermutation", fn := fun _ => fun
  | [d1, d2] => { results := [.lit (.bool true)], args := [d1, d2] }
  | _ => none }
def fnExactIsPermutationRow : OpenClaim := { program := "ytifialdkjnmfoaa", sum := "6ca6670c37ccb605902121c77279cf0e97cfc6610e734596e63f885df217864a", func := "loop.example/g01082/laws.FnExactIsPermutation", spec := "fnExactIsPermutation", unfollowed := true, recurses := true, apart := false }
def FnExactIsPermutationSaid : Prop := fnExactIsPermutationRow.holds Try.pinned (OpenSpec.ofChange fnExactIsPermutationSpec)

/-- ITS FALSE NEIGHBOUR: 'it returns false'. Refute it at one input. -/
def fnExactIsPermutationWrong : ChangeSpec := { name := "fnExactIsPermutation", fn := fun _ => fun
  | [d1, d2] => { results := [.lit (.bool false)], args := [d1, d2] }
  | _ => none }
def FnExactIsPermutationWrongFalsely : Prop := fnExactIsPermutationRow.holds Try.pinned (OpenSpec.ofChange fnExactIsPermutationWrong)

/-- 'laws.FnExactIsIdentity': WHATEVER THE INPUT: true; the input reads as it did. -/
def fnExactIsIdentitySpec : ChangeSpec := { name := "fnExactIsIdentity", fn := fun _ => fun
  | [d1, d2] => { results := [.lit (.bool true)], args := [d1, d2] }
  | _ => none }
def fnExactIsIdentityRow : OpenClaim := { program := "ytifialdkjnmfoaa", sum := "6ca6670c37ccb605902121c77279cf0e97cfc6610e734596e63f885df217864a", func := "loop.example/g01082/laws.FnExactIsIdentity", spec := "fnExactIsIdentity", unfollowed := true, recurses := true, apart := false }
def FnExactIsIdentitySaid : Prop := fnExactIsIdentityRow.holds Try.pinned (OpenSpec.ofChange fnExactIsIdentitySpec)

/-- ITS FALSE NEIGHBOUR: 'it returns false'. Refute it at one input. -/
def fnExactIsIdentityWrong : ChangeSpec := { name := "fnExactIsIdentity", fn := fun _ => fun
  | [d1, d2] => { results := [.lit (.bool false)], args := [d1, d2] }
  | _ => none }
def FnExactIsIdentityWrongFalsely : Prop := fnExactIsIdentityRow.holds Try.pinned (OpenSpec.ofChange fnExactIsIdentityWrong)

/-- 'laws.FnExactIsRenaming': WHATEVER THE INPUT: true; the input reads as it did. -/
def fnExactIsRenamingSpec : ChangeSpec := { name := "fnExactIsRenaming", fn := fun _ => fun
  | [d1, d2] => { results := [.lit (.bool true)], args := [d1, d2] }
  | _ => none }
def fnExactIsRenamingRow : OpenClaim := { program := "ytifialdkjnmfoaa", sum := "6ca6670c37ccb605902121c77279cf0e97cfc6610e734596e63f885df217864a", func := "loop.example/g01082/laws.FnExactIsRenaming", spec := "fnExactIsRenaming", unfollowed := true, recurses := true, apart := false }
def FnExactIsRenamingSaid : Prop := fnExactIsRenamingRow.holds Try.pinned (OpenSpec.ofChange fnExactIsRenamingSpec)

/-- ITS FALSE NEIGHBOUR: 'it returns false'. Refute it at one input. -/
def fnExactIsRenamingWrong : ChangeSpec := { name := "fnExactIsRenaming", fn := fun _ => fun
  | [d1, d2] => { results := [.lit (.bool false)], args := [d1, d2] }
  | _ => none }
def FnExactIsRenamingWrongFalsely : Prop := fnExactIsRenamingRow.holds Try.pinned (OpenSpec.ofChange fnExactIsRenamingWrong)

/-- 'laws.FnExactIsDiscrete': WHATEVER THE INPUT: true; the input reads as it did. -/
def fnExactIsDiscreteSpec : ChangeSpec := { name := "fnExactIsDiscrete", fn := fun _ => fun
  | [d1, d2] => { results := [.lit (.bool true)], args := [d1, d2] }
  | _ => none }
def fnExactIsDiscreteRow : OpenClaim := { program := "ytifialdkjnmfoaa", sum := "6ca6670c37ccb605902121c77279cf0e97cfc6610e734596e63f885df217864a", func := "loop.example/g01082/laws.FnExactIsDiscrete", spec := "fnExactIsDiscrete", unfollowed := true, recurses := true, apart := false }
def FnExactIsDiscreteSaid : Prop := fnExactIsDiscreteRow.holds Try.pinned (OpenSpec.ofChange fnExactIsDiscreteSpec)

/-- ITS FALSE NEIGHBOUR: 'it returns false'. Refute it at one input. -/
def fnExactIsDiscreteWrong : ChangeSpec := { name := "fnExactIsDiscrete", fn := fun _ => fun
  | [d1, d2] => { results := [.lit (.bool false)], args := [d1, d2] }
  | _ => none }
def FnExactIsDiscreteWrongFalsely : Prop := fnExactIsDiscreteRow.holds Try.pinned (OpenSpec.ofChange fnExactIsDiscreteWrong)

/-- 'laws.FnExactIsLean': WHATEVER THE INPUT: true; the input reads as it did. -/
def fnExactIsLeanSpec : ChangeSpec := { name := "fnExactIsLean", fn := fun _ => fun
  | [d1, d2] => { results := [.lit (.bool true)], args := [d1, d2] }
  | _ => none }
def fnExactIsLeanRow : OpenClaim := { program := "ytifialdkjnmfoaa", sum := "6ca6670c37ccb605902121c77279cf0e97cfc6610e734596e63f885df217864a", func := "loop.example/g01082/laws.FnExactIsLean", spec := "fnExactIsLean", unfollowed := true, recurses := true, apart := false }
def FnExactIsLeanSaid : Prop := fnExactIsLeanRow.holds Try.pinned (OpenSpec.ofChange fnExactIsLeanSpec)

/-- ITS FALSE NEIGHBOUR: 'it returns false'. Refute it at one input. -/
def fnExactIsLeanWrong : ChangeSpec := { name := "fnExactIsLean", fn := fun _ => fun
  | [d1, d2] => { results := [.lit (.bool false)], args := [d1, d2] }
  | _ => none }
def FnExactIsLeanWrongFalsely : Prop := fnExactIsLeanRow.holds Try.pinned (OpenSpec.ofChange fnExactIsLeanWrong)

/-- 'laws.FnExactIsGuarding': WHATEVER THE INPUT: true; the input reads as it did. -/
def fnExactIsGuardingSpec : ChangeSpec := { name := "fnExactIsGuarding", fn := fun _ => fun
  | [d1, d2] => { results := [.lit (.bool true)], args := [d1, d2] }
  | _ => none }
def fnExactIsGuardingRow : OpenClaim := { program := "ytifialdkjnmfoaa", sum := "6ca6670c37ccb605902121c77279cf0e97cfc6610e734596e63f885df217864a", func := "loop.example/g01082/laws.FnExactIsGuarding", spec := "fnExactIsGuarding", unfollowed := true, recurses := true, apart := false }
def FnExactIsGuardingSaid : Prop := fnExactIsGuardingRow.holds Try.pinned (OpenSpec.ofChange fnExactIsGuardingSpec)

/-- ITS FALSE NEIGHBOUR: 'it returns false'. Refute it at one input. -/
def fnExactIsGuardingWrong : ChangeSpec := { name := "fnExactIsGuarding", fn := fun _ => fun
  | [d1, d2] => { results := [.lit (.bool false)], args := [d1, d2] }
  | _ => none }
def FnExactIsGuardingWrongFalsely : Prop := fnExactIsGuardingRow.holds Try.pinned (OpenSpec.ofChange fnExactIsGuardingWrong)

/-- 'laws.FnExactComposeWirings': WHATEVER THE INPUT: true; the input reads as it did. -/
def fnExactComposeWiringsSpec : ChangeSpec := { name := "fnExactComposeWirings", fn := fun _ => fun
  | [d1, d2, d3] => { results := [.lit (.bool true)], args := [d1, d2, d3] }
  | _ => none }
def fnExactComposeWiringsRow : OpenClaim := { program := "ytifialdkjnmfoaa", sum := "6ca6670c37ccb605902121c77279cf0e97cfc6610e734596e63f885df217864a", func := "loop.example/g01082/laws.FnExactComposeWirings", spec := "fnExactComposeWirings", unfollowed := true, recurses := true, apart := false }
def FnExactComposeWiringsSaid : Prop := fnExactComposeWiringsRow.holds Try.pinned (OpenSpec.ofChange fnExactComposeWiringsSpec)

/-- ITS FALSE NEIGHBOUR: 'it returns false'. Refute it at one input. -/
def fnExactComposeWiringsWrong : ChangeSpec := { name := "fnExactComposeWirings", fn := fun _ => fun
  | [d1, d2, d3] => { results := [.lit (.bool false)], args := [d1, d2, d3] }
  | _ => none }
def FnExactComposeWiringsWrongFalsely : Prop := fnExactComposeWiringsRow.holds Try.pinned (OpenSpec.ofChange fnExactComposeWiringsWrong)

/- THE SECOND FORM. 'bulk': how many values and letters a reading holds, each counted each time it is reached (what is shared counts as often as it is met; a slice's spare places count too). A statement '..UptoSaid' is the law's where the arguments, and the package variables that the reading takes, are together of bulk at most 1048576: NARROWER than '..Said'. Prove '..Said' where nothing that the law and all that it calls make is longer than what came in: it says more and counts as full. Else prove '..UptoSaid'. A law counts once. -/
mutual
def uptoBulk {H : Type} : DataW H → Nat
  | .lit (.string bytes) => bytes.length + 1
  | .lit _ => 1
  | .nil => 1
  | .ptr d => uptoBulk d + 1
  | .slice elems spare => uptoBulkAll elems + uptoBulkAll spare + 1
  | .agg parts => uptoBulkAll parts + 1
  | .iface _ d => uptoBulk d + 1
  | .map entries => uptoBulkEntries entries + 1
  | .held _ => 1
def uptoBulkAll {H : Type} : List (DataW H) → Nat
  | [] => 0
  | d :: r => uptoBulk d + uptoBulkAll r
def uptoBulkEntries {H : Type} : List (Lit × DataW H) → Nat
  | [] => 0
  | x :: r => uptoBulkEntry x + uptoBulkEntries r
def uptoBulkEntry {H : Type} : Lit × DataW H → Nat
  | (.string bytes, d) => bytes.length + uptoBulk d + 1
  | (_, d) => uptoBulk d + 1
 end
def uptoSmall : (H : Type) → List (DataW H) → Bool := fun _ ds => decide (uptoBulkAll ds ≤ 1048576)
def OpenSpec.upto (s : _root_.Go.ChangeSpec) : _root_.Go.OpenSpec := { _root_.Go.OpenSpec.ofChange s with cond := some uptoSmall }

/-- 'laws.FnExactPointsOf', WHERE WHAT IT READS IS OF BULK AT MOST 1048576: true; the input reads as it did. -/
def fnExactPointsOfUptoRow : OpenClaim := { program := "ytifialdkjnmfoaa", sum := "6ca6670c37ccb605902121c77279cf0e97cfc6610e734596e63f885df217864a", func := "loop.example/g01082/laws.FnExactPointsOf", spec := "fnExactPointsOf", unfollowed := true, recurses := true, apart := false, narrowed := true }
def FnExactPointsOfUptoSaid : Prop := fnExactPointsOfUptoRow.holds Try.pinned (OpenSpec.upto fnExactPointsOfSpec)

/-- 'laws.FnExactRenumberNodes', WHERE WHAT IT READS IS OF BULK AT MOST 1048576: true; the input reads as it did. -/
def fnExactRenumberNodesUptoRow : OpenClaim := { program := "ytifialdkjnmfoaa", sum := "6ca6670c37ccb605902121c77279cf0e97cfc6610e734596e63f885df217864a", func := "loop.example/g01082/laws.FnExactRenumberNodes", spec := "fnExactRenumberNodes", unfollowed := true, recurses := true, apart := false, narrowed := true }
def FnExactRenumberNodesUptoSaid : Prop := fnExactRenumberNodesUptoRow.holds Try.pinned (OpenSpec.upto fnExactRenumberNodesSpec)

/-- 'laws.FnExactLinkParts', WHERE WHAT IT READS IS OF BULK AT MOST 1048576: true; the input reads as it did. -/
def fnExactLinkPartsUptoRow : OpenClaim := { program := "ytifialdkjnmfoaa", sum := "6ca6670c37ccb605902121c77279cf0e97cfc6610e734596e63f885df217864a", func := "loop.example/g01082/laws.FnExactLinkParts", spec := "fnExactLinkParts", unfollowed := true, recurses := true, apart := false, narrowed := true }
def FnExactLinkPartsUptoSaid : Prop := fnExactLinkPartsUptoRow.holds Try.pinned (OpenSpec.upto fnExactLinkPartsSpec)

/-- 'laws.FnExactIdentityOf', WHERE WHAT IT READS IS OF BULK AT MOST 1048576: true; the input reads as it did. -/
def fnExactIdentityOfUptoRow : OpenClaim := { program := "ytifialdkjnmfoaa", sum := "6ca6670c37ccb605902121c77279cf0e97cfc6610e734596e63f885df217864a", func := "loop.example/g01082/laws.FnExactIdentityOf", spec := "fnExactIdentityOf", unfollowed := true, recurses := true, apart := false, narrowed := true }
def FnExactIdentityOfUptoSaid : Prop := fnExactIdentityOfUptoRow.holds Try.pinned (OpenSpec.upto fnExactIdentityOfSpec)

/-- 'laws.FnExactSwapOf', WHERE WHAT IT READS IS OF BULK AT MOST 1048576: true; the input reads as it did. -/
def fnExactSwapOfUptoRow : OpenClaim := { program := "ytifialdkjnmfoaa", sum := "6ca6670c37ccb605902121c77279cf0e97cfc6610e734596e63f885df217864a", func := "loop.example/g01082/laws.FnExactSwapOf", spec := "fnExactSwapOf", apart := false, narrowed := true }
def FnExactSwapOfUptoSaid : Prop := fnExactSwapOfUptoRow.holds Try.pinned (OpenSpec.upto fnExactSwapOfSpec)

/-- 'laws.FnExactIonOf', WHERE WHAT IT READS IS OF BULK AT MOST 1048576: true; the input reads as it did. -/
def fnExactIonOfUptoRow : OpenClaim := { program := "ytifialdkjnmfoaa", sum := "6ca6670c37ccb605902121c77279cf0e97cfc6610e734596e63f885df217864a", func := "loop.example/g01082/laws.FnExactIonOf", spec := "fnExactIonOf", unfollowed := true, recurses := true, apart := false, narrowed := true }
def FnExactIonOfUptoSaid : Prop := fnExactIonOfUptoRow.holds Try.pinned (OpenSpec.upto fnExactIonOfSpec)

/-- 'laws.FnExactAtomOf', WHERE WHAT IT READS IS OF BULK AT MOST 1048576: true; the input reads as it did. -/
def fnExactAtomOfUptoRow : OpenClaim := { program := "ytifialdkjnmfoaa", sum := "6ca6670c37ccb605902121c77279cf0e97cfc6610e734596e63f885df217864a", func := "loop.example/g01082/laws.FnExactAtomOf", spec := "fnExactAtomOf", unfollowed := true, recurses := true, apart := false, narrowed := true }
def FnExactAtomOfUptoSaid : Prop := fnExactAtomOfUptoRow.holds Try.pinned (OpenSpec.upto fnExactAtomOfSpec)

/-- 'laws.FnExactSubstitutionOf', WHERE WHAT IT READS IS OF BULK AT MOST 1048576: true; the input reads as it did. -/
def fnExactSubstitutionOfUptoRow : OpenClaim := { program := "ytifialdkjnmfoaa", sum := "6ca6670c37ccb605902121c77279cf0e97cfc6610e734596e63f885df217864a", func := "loop.example/g01082/laws.FnExactSubstitutionOf", spec := "fnExactSubstitutionOf", unfollowed := true, recurses := true, apart := false, narrowed := true }
def FnExactSubstitutionOfUptoSaid : Prop := fnExactSubstitutionOfUptoRow.holds Try.pinned (OpenSpec.upto fnExactSubstitutionOfSpec)

/-- 'laws.FnExactIsPermutation', WHERE WHAT IT READS IS OF BULK AT MOST 1048576: true; the input reads as it did. -/
def fnExactIsPermutationUptoRow : OpenClaim := { program := "ytifialdkjnmfoaa", sum := "6ca6670c37ccb605902121c77279cf0e97cfc6610e734596e63f885df217864a", func := "loop.example/g01082/laws.FnExactIsPermutation", spec := "fnExactIsPermutation", unfollowed := true, recurses := true, apart := false, narrowed := true }
def FnExactIsPermutationUptoSaid : Prop := fnExactIsPermutationUptoRow.holds Try.pinned (OpenSpec.upto fnExactIsPermutationSpec)

/-- 'laws.FnExactIsIdentity', WHERE WHAT IT READS IS OF BULK AT MOST 1048576: true; the input reads as it did. -/
def fnExactIsIdentityUptoRow : OpenClaim := { program := "ytifialdkjnmfoaa", sum := "6ca6670c37ccb605902121c77279cf0e97cfc6610e734596e63f885df217864a", func := "loop.example/g01082/laws.FnExactIsIdentity", spec := "fnExactIsIdentity", unfollowed := true, recurses := true, apart := false, narrowed := true }
def FnExactIsIdentityUptoSaid : Prop := fnExactIsIdentityUptoRow.holds Try.pinned (OpenSpec.upto fnExactIsIdentitySpec)

/-- 'laws.FnExactIsRenaming', WHERE WHAT IT READS IS OF BULK AT MOST 1048576: true; the input reads as it did. -/
def fnExactIsRenamingUptoRow : OpenClaim := { program := "ytifialdkjnmfoaa", sum := "6ca6670c37ccb605902121c77279cf0e97cfc6610e734596e63f885df217864a", func := "loop.example/g01082/laws.FnExactIsRenaming", spec := "fnExactIsRenaming", unfollowed := true, recurses := true, apart := false, narrowed := true }
def FnExactIsRenamingUptoSaid : Prop := fnExactIsRenamingUptoRow.holds Try.pinned (OpenSpec.upto fnExactIsRenamingSpec)

/-- 'laws.FnExactIsDiscrete', WHERE WHAT IT READS IS OF BULK AT MOST 1048576: true; the input reads as it did. -/
def fnExactIsDiscreteUptoRow : OpenClaim := { program := "ytifialdkjnmfoaa", sum := "6ca6670c37ccb605902121c77279cf0e97cfc6610e734596e63f885df217864a", func := "loop.example/g01082/laws.FnExactIsDiscrete", spec := "fnExactIsDiscrete", unfollowed := true, recurses := true, apart := false, narrowed := true }
def FnExactIsDiscreteUptoSaid : Prop := fnExactIsDiscreteUptoRow.holds Try.pinned (OpenSpec.upto fnExactIsDiscreteSpec)

/-- 'laws.FnExactIsLean', WHERE WHAT IT READS IS OF BULK AT MOST 1048576: true; the input reads as it did. -/
def fnExactIsLeanUptoRow : OpenClaim := { program := "ytifialdkjnmfoaa", sum := "6ca6670c37ccb605902121c77279cf0e97cfc6610e734596e63f885df217864a", func := "loop.example/g01082/laws.FnExactIsLean", spec := "fnExactIsLean", unfollowed := true, recurses := true, apart := false, narrowed := true }
def FnExactIsLeanUptoSaid : Prop := fnExactIsLeanUptoRow.holds Try.pinned (OpenSpec.upto fnExactIsLeanSpec)

/-- 'laws.FnExactIsGuarding', WHERE WHAT IT READS IS OF BULK AT MOST 1048576: true; the input reads as it did. -/
def fnExactIsGuardingUptoRow : OpenClaim := { program := "ytifialdkjnmfoaa", sum := "6ca6670c37ccb605902121c77279cf0e97cfc6610e734596e63f885df217864a", func := "loop.example/g01082/laws.FnExactIsGuarding", spec := "fnExactIsGuarding", unfollowed := true, recurses := true, apart := false, narrowed := true }
def FnExactIsGuardingUptoSaid : Prop := fnExactIsGuardingUptoRow.holds Try.pinned (OpenSpec.upto fnExactIsGuardingSpec)

/-- 'laws.FnExactComposeWirings', WHERE WHAT IT READS IS OF BULK AT MOST 1048576: true; the input reads as it did. -/
def fnExactComposeWiringsUptoRow : OpenClaim := { program := "ytifialdkjnmfoaa", sum := "6ca6670c37ccb605902121c77279cf0e97cfc6610e734596e63f885df217864a", func := "loop.example/g01082/laws.FnExactComposeWirings", spec := "fnExactComposeWirings", unfollowed := true, recurses := true, apart := false, narrowed := true }
def FnExactComposeWiringsUptoSaid : Prop := fnExactComposeWiringsUptoRow.holds Try.pinned (OpenSpec.upto fnExactComposeWiringsSpec)

end Rows
end Go.Proofs.Ytifialdkjnmfoaa
