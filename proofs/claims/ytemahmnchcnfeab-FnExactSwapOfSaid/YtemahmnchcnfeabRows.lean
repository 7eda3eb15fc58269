/-
  No cell of these rows narrows 'for every input' (looked for: loops, veiled, ifaces, maps, wideKeys, modest, calm, conditions, laid).
  DERIVED. THE GIVEN ROWS OF THIS SEAT. 13 by the template 'for every input the law returns true; each argument reads behind the call as it read before'; 0 by the template 'total and deterministic' (their statements: YtemahmnchcnfeabTotals.lean).
  GIVEN WITH THE SEED: the statements are not yours to turn. If you find one false, say at which input.
  Laid BY PROGRAM, IN A SANDBOX (cutbox-rows.mjs): the forced cells as the released guide's own fill.sh prints them over the translation c6c17312874a2d8d… (all of the seat's roots in one cut). By AI agents, Wed Nov 11 2026. No macro, syntax, notation, axiom, sorry.
-/
import Derived.Test.YtemahmnchcnfeabChecked
import GoSem.Claim
import GoSem.ClaimJoined
import GoSem.ClaimMapViews
import Derived.JoinedTies
import Derived.KernelRfl
namespace Go.Proofs.Ytemahmnchcnfeab
/- THE CELL 'sum', in the pinned program and in every row, IS THE sha256 OF THE DUMP (.gsa) THAT YtemahmnchcnfeabProg.lean LOADS. Nothing in Lean hashes anything: it is a label: what it is worth is what the hold of that sum in a sandbox is worth. -/
noncomputable def Try.pinned : Pinned := { name := "ytemahmnchcnfeab", sum := "c6c17312874a2d8d430480a4c0de2e1b8f7f2c1a958edc3e9b184bb081d18dcc", checked := Try.checked }
namespace Rows
def none {H : Type} : Left H := { results := [], args := [] }

/-- 'laws.FnExactLinkParts': WHATEVER THE INPUT: true; the input reads as it did. -/
def fnExactLinkPartsSpec : ChangeSpec := { name := "fnExactLinkParts", fn := fun _ => fun
  | [d1, d2] => { results := [.lit (.bool true)], args := [d1, d2] }
  | _ => none }
def fnExactLinkPartsRow : OpenClaim := { program := "ytemahmnchcnfeab", sum := "c6c17312874a2d8d430480a4c0de2e1b8f7f2c1a958edc3e9b184bb081d18dcc", func := "loop.example/g01082/laws.FnExactLinkParts", spec := "fnExactLinkParts", unfollowed := true, recurses := true, apart := false }
def FnExactLinkPartsSaid : Prop := fnExactLinkPartsRow.holds Try.pinned (OpenSpec.ofChange fnExactLinkPartsSpec)

/-- ITS FALSE NEIGHBOUR: 'it returns false'. Refute it at one input. -/
def fnExactLinkPartsWrong : ChangeSpec := { name := "fnExactLinkParts", fn := fun _ => fun
  | [d1, d2] => { results := [.lit (.bool false)], args := [d1, d2] }
  | _ => none }
def FnExactLinkPartsWrongFalsely : Prop := fnExactLinkPartsRow.holds Try.pinned (OpenSpec.ofChange fnExactLinkPartsWrong)

/-- 'laws.FnExactRenumberNodes': WHATEVER THE INPUT: true; the input reads as it did. -/
def fnExactRenumberNodesSpec : ChangeSpec := { name := "fnExactRenumberNodes", fn := fun _ => fun
  | [d1, d2, d3, d4] => { results := [.lit (.bool true)], args := [d1, d2, d3, d4] }
  | _ => none }
def fnExactRenumberNodesRow : OpenClaim := { program := "ytemahmnchcnfeab", sum := "c6c17312874a2d8d430480a4c0de2e1b8f7f2c1a958edc3e9b184bb081d18dcc", func := "loop.example/g01082/laws.FnExactRenumberNodes", spec := "fnExactRenumberNodes", unfollowed := true, recurses := true, apart := false }
def FnExactRenumberNodesSaid : Prop := fnExactRenumberNodesRow.holds Try.pinned (OpenSpec.ofChange fnExactRenumberNodesSpec)

/-- ITS FALSE NEIGHBOUR: 'it returns false'. Refute it at one input. -/
def fnExactRenumberNodesWrong : ChangeSpec := { name := "fnExactRenumberNodes", fn := fun _ => fun
  | [d1, d2, d3, d4] => { results := [.lit (.bool false)], args := [d1, d2, d3, d4] }
  | _ => none }
def FnExactRenumberNodesWrongFalsely : Prop := fnExactRenumberNodesRow.holds Try.pinned (OpenSpec.ofChange fnExactRenumberNodesWrong)

/-- 'laws.FnExactIdentityOf': WHATEVER THE INPUT: true; the input reads as it did. -/
def fnExactIdentityOfSpec : ChangeSpec := { name := "fnExactIdentityOf", fn := fun _ => fun
  | [d1, d2] => { results := [.lit (.bool true)], args := [d1, d2] }
  | _ => none }
def fnExactIdentityOfRow : OpenClaim := { program := "ytemahmnchcnfeab", sum := "c6c17312874a2d8d430480a4c0de2e1b8f7f2c1a958edc3e9b184bb081d18dcc", func := "loop.example/g01082/laws.FnExactIdentityOf", spec := "fnExactIdentityOf", unfollowed := true, recurses := true, apart := false }
def FnExactIdentityOfSaid : Prop := fnExactIdentityOfRow.holds Try.pinned (OpenSpec.ofChange fnExactIdentityOfSpec)

/-- ITS FALSE NEIGHBOUR: 'it returns false'. Refute it at one input. -/
def fnExactIdentityOfWrong : ChangeSpec := { name := "fnExactIdentityOf", fn := fun _ => fun
  | [d1, d2] => { results := [.lit (.bool false)], args := [d1, d2] }
  | _ => none }
def FnExactIdentityOfWrongFalsely : Prop := fnExactIdentityOfRow.holds Try.pinned (OpenSpec.ofChange fnExactIdentityOfWrong)

/-- 'laws.FnExactPermutationOf': WHATEVER THE INPUT: true; the input reads as it did. -/
def fnExactPermutationOfSpec : ChangeSpec := { name := "fnExactPermutationOf", fn := fun _ => fun
  | [d] => { results := [.lit (.bool true)], args := [d] }
  | _ => none }
def fnExactPermutationOfRow : OpenClaim := { program := "ytemahmnchcnfeab", sum := "c6c17312874a2d8d430480a4c0de2e1b8f7f2c1a958edc3e9b184bb081d18dcc", func := "loop.example/g01082/laws.FnExactPermutationOf", spec := "fnExactPermutationOf", apart := false }
def FnExactPermutationOfSaid : Prop := fnExactPermutationOfRow.holds Try.pinned (OpenSpec.ofChange fnExactPermutationOfSpec)

/-- ITS FALSE NEIGHBOUR: 'it returns false'. Refute it at one input. -/
def fnExactPermutationOfWrong : ChangeSpec := { name := "fnExactPermutationOf", fn := fun _ => fun
  | [d] => { results := [.lit (.bool false)], args := [d] }
  | _ => none }
def FnExactPermutationOfWrongFalsely : Prop := fnExactPermutationOfRow.holds Try.pinned (OpenSpec.ofChange fnExactPermutationOfWrong)

/-- 'laws.FnExactSwapOf': WHATEVER THE INPUT: true; the input reads as it did. -/
def fnExactSwapOfSpec : ChangeSpec := { name := "fnExactSwapOf", fn := fun _ => fun
  | [d1, d2] => { results := [.lit (.bool true)], args := [d1, d2] }
  | _ => none }
def fnExactSwapOfRow : OpenClaim := { program := "ytemahmnchcnfeab", sum := "c6c17312874a2d8d430480a4c0de2e1b8f7f2c1a958edc3e9b184bb081d18dcc", func := "loop.example/g01082/laws.FnExactSwapOf", spec := "fnExactSwapOf", apart := false }
def FnExactSwapOfSaid : Prop := fnExactSwapOfRow.holds Try.pinned (OpenSpec.ofChange fnExactSwapOfSpec)

/-- ITS FALSE NEIGHBOUR: 'it returns false'. Refute it at one input. -/
def fnExactSwapOfWrong : ChangeSpec := { name := "fnExactSwapOf", fn := fun _ => fun
  | [d1, d2] => { results := [.lit (.bool false)], args := [d1, d2] }
  | _ => none }
def FnExactSwapOfWrongFalsely : Prop := fnExactSwapOfRow.holds Try.pinned (OpenSpec.ofChange fnExactSwapOfWrong)

/-- 'laws.FnExactMergeOf': WHATEVER THE INPUT: true; the input reads as it did. -/
def fnExactMergeOfSpec : ChangeSpec := { name := "fnExactMergeOf", fn := fun _ => fun
  | [d] => { results := [.lit (.bool true)], args := [d] }
  | _ => none }
def fnExactMergeOfRow : OpenClaim := { program := "ytemahmnchcnfeab", sum := "c6c17312874a2d8d430480a4c0de2e1b8f7f2c1a958edc3e9b184bb081d18dcc", func := "loop.example/g01082/laws.FnExactMergeOf", spec := "fnExactMergeOf", apart := false }
def FnExactMergeOfSaid : Prop := fnExactMergeOfRow.holds Try.pinned (OpenSpec.ofChange fnExactMergeOfSpec)

/-- ITS FALSE NEIGHBOUR: 'it returns false'. Refute it at one input. -/
def fnExactMergeOfWrong : ChangeSpec := { name := "fnExactMergeOf", fn := fun _ => fun
  | [d] => { results := [.lit (.bool false)], args := [d] }
  | _ => none }
def FnExactMergeOfWrongFalsely : Prop := fnExactMergeOfRow.holds Try.pinned (OpenSpec.ofChange fnExactMergeOfWrong)

/-- 'laws.FnExactBarrenOf': WHATEVER THE INPUT: true; the input reads as it did. -/
def fnExactBarrenOfSpec : ChangeSpec := { name := "fnExactBarrenOf", fn := fun _ => fun
  | [d] => { results := [.lit (.bool true)], args := [d] }
  | _ => none }
def fnExactBarrenOfRow : OpenClaim := { program := "ytemahmnchcnfeab", sum := "c6c17312874a2d8d430480a4c0de2e1b8f7f2c1a958edc3e9b184bb081d18dcc", func := "loop.example/g01082/laws.FnExactBarrenOf", spec := "fnExactBarrenOf", apart := false }
def FnExactBarrenOfSaid : Prop := fnExactBarrenOfRow.holds Try.pinned (OpenSpec.ofChange fnExactBarrenOfSpec)

/-- ITS FALSE NEIGHBOUR: 'it returns false'. Refute it at one input. -/
def fnExactBarrenOfWrong : ChangeSpec := { name := "fnExactBarrenOf", fn := fun _ => fun
  | [d] => { results := [.lit (.bool false)], args := [d] }
  | _ => none }
def FnExactBarrenOfWrongFalsely : Prop := fnExactBarrenOfRow.holds Try.pinned (OpenSpec.ofChange fnExactBarrenOfWrong)

/-- 'laws.FnExactIonOf': WHATEVER THE INPUT: true; the input reads as it did. -/
def fnExactIonOfSpec : ChangeSpec := { name := "fnExactIonOf", fn := fun _ => fun
  | [d1, d2, d3] => { results := [.lit (.bool true)], args := [d1, d2, d3] }
  | _ => none }
def fnExactIonOfRow : OpenClaim := { program := "ytemahmnchcnfeab", sum := "c6c17312874a2d8d430480a4c0de2e1b8f7f2c1a958edc3e9b184bb081d18dcc", func := "loop.example/g01082/laws.FnExactIonOf", spec := "fnExactIonOf", unfollowed := true, recurses := true, apart := false }
def FnExactIonOfSaid : Prop := fnExactIonOfRow.holds Try.pinned (OpenSpec.ofChange fnExactIonOfSpec)

/-- ITS FALSE NEIGHBOUR: 'it returns false'. Refute it at one input. -/
def fnExactIonOfWrong : ChangeSpec := { name := "fnExactIonOf", fn := fun _ => fun
  | [d1, d2, d3] => { results := [.lit (.bool false)], args := [d1, d2, d3] }
  | _ => none }
def FnExactIonOfWrongFalsely : Prop := fnExactIonOfRow.holds Try.pinned (OpenSpec.ofChange fnExactIonOfWrong)

/-- 'laws.FnExactAtomOf': WHATEVER THE INPUT: true; the input reads as it did. -/
def fnExactAtomOfSpec : ChangeSpec := { name := "fnExactAtomOf", fn := fun _ => fun
  | [d1, d2, d3] => { results := [.lit (.bool true)], args := [d1, d2, d3] }
  | _ => none }
def fnExactAtomOfRow : OpenClaim := { program := "ytemahmnchcnfeab", sum := "c6c17312874a2d8d430480a4c0de2e1b8f7f2c1a958edc3e9b184bb081d18dcc", func := "loop.example/g01082/laws.FnExactAtomOf", spec := "fnExactAtomOf", unfollowed := true, recurses := true, apart := false }
def FnExactAtomOfSaid : Prop := fnExactAtomOfRow.holds Try.pinned (OpenSpec.ofChange fnExactAtomOfSpec)

/-- ITS FALSE NEIGHBOUR: 'it returns false'. Refute it at one input. -/
def fnExactAtomOfWrong : ChangeSpec := { name := "fnExactAtomOf", fn := fun _ => fun
  | [d1, d2, d3] => { results := [.lit (.bool false)], args := [d1, d2, d3] }
  | _ => none }
def FnExactAtomOfWrongFalsely : Prop := fnExactAtomOfRow.holds Try.pinned (OpenSpec.ofChange fnExactAtomOfWrong)

/-- 'laws.FnExactSubstitutionOf': WHATEVER THE INPUT: true; the input reads as it did. -/
def fnExactSubstitutionOfSpec : ChangeSpec := { name := "fnExactSubstitutionOf", fn := fun _ => fun
  | [d1, d2] => { results := [.lit (.bool true)], args := [d1, d2] }
  | _ => none }
def fnExactSubstitutionOfRow : OpenClaim := { program := "ytemahmnchcnfeab", sum := "c6c17312874a2d8d430480a4c0de2e1b8f7f2c1a958edc3e9b184bb081d18dcc", func := "loop.example/g01082/laws.FnExactSubstitutionOf", spec := "fnExactSubstitutionOf", unfollowed := true, recurses := true, apart := false }
def FnExactSubstitutionOfSaid : Prop := fnExactSubstitutionOfRow.holds Try.pinned (OpenSpec.ofChange fnExactSubstitutionOfSpec)

/-- ITS FALSE NEIGHBOUR: 'it returns false'. Refute it at one input. -/
def fnExactSubstitutionOfWrong : ChangeSpec := { name := "fnExactSubstitutionOf", fn := fun _ => fun
  | [d1, d2] => { results := [.lit (.bool false)], args := [d1, d2] }
  | _ => none }
def FnExactSubstitutionOfWrongFalsely : Prop := fnExactSubstitutionOfRow.holds Try.pinned (OpenSpec.ofChange fnExactSubstitutionOfWrong)

/-- 'laws.FnExactNewNames': WHATEVER THE INPUT: true; the input reads as it did. -/
def fnExactNewNamesSpec : ChangeSpec := { name := "fnExactNewNames", fn := fun _ => fun
  | [d] => { results := [.lit (.bool true)], args := [d] }
  | _ => none }
def fnExactNewNamesRow : OpenClaim := { program := "ytemahmnchcnfeab", sum := "c6c17312874a2d8d430480a4c0de2e1b8f7f2c1a958edc3e9b184bb081d18dcc", func := "loop.example/g01082/laws.FnExactNewNames", spec := "fnExactNewNames", apart := false }
def FnExactNewNamesSaid : Prop := fnExactNewNamesRow.holds Try.pinned (OpenSpec.ofChange fnExactNewNamesSpec)

/-- ITS FALSE NEIGHBOUR: 'it returns false'. Refute it at one input. -/
def fnExactNewNamesWrong : ChangeSpec := { name := "fnExactNewNames", fn := fun _ => fun
  | [d] => { results := [.lit (.bool false)], args := [d] }
  | _ => none }
def FnExactNewNamesWrongFalsely : Prop := fnExactNewNamesRow.holds Try.pinned (OpenSpec.ofChange fnExactNewNamesWrong)

/-- 'laws.FnExactClosureOf': WHATEVER THE INPUT: true; the input reads as it did. -/
def fnExactClosureOfSpec : ChangeSpec := { name := "fnExactClosureOf", fn := fun _ => fun
  | [d] => { results := [.lit (.bool true)], args := [d] }
  | _ => none }
def fnExactClosureOfRow : OpenClaim := { program := "ytemahmnchcnfeab", sum := "c6c17312874a2d8d430480a4c0de2e1b8f7f2c1a958edc3e9b184bb081d18dcc", func := "loop.example/g01082/laws.FnExactClosureOf", spec := "fnExactClosureOf", apart := false }
def FnExactClosureOfSaid : Prop := fnExactClosureOfRow.holds Try.pinned (OpenSpec.ofChange fnExactClosureOfSpec)

/-- ITS FALSE NEIGHBOUR: 'it returns false'. Refute it at one input. -/
def fnExactClosureOfWrong : ChangeSpec := { name := "fnExactClosureOf", fn := fun _ => fun
  | [d] => { results := [.lit (.bool false)], args := [d] }
  | _ => none }
def FnExactClosureOfWrongFalsely : Prop := fnExactClosureOfRow.holds Try.pinned (OpenSpec.ofChange fnExactClosureOfWrong)

/-- 'laws.FnExactDiscreteOf': WHATEVER THE INPUT: true; the input reads as it did. -/
def fnExactDiscreteOfSpec : ChangeSpec := { name := "fnExactDiscreteOf", fn := fun _ => fun
  | [d1, d2] => { results := [.lit (.bool true)], args := [d1, d2] }
  | _ => none }
def fnExactDiscreteOfRow : OpenClaim := { program := "ytemahmnchcnfeab", sum := "c6c17312874a2d8d430480a4c0de2e1b8f7f2c1a958edc3e9b184bb081d18dcc", func := "loop.example/g01082/laws.FnExactDiscreteOf", spec := "fnExactDiscreteOf", unfollowed := true, recurses := true, apart := false }
def FnExactDiscreteOfSaid : Prop := fnExactDiscreteOfRow.holds Try.pinned (OpenSpec.ofChange fnExactDiscreteOfSpec)

/-- ITS FALSE NEIGHBOUR: 'it returns false'. Refute it at one input. -/
def fnExactDiscreteOfWrong : ChangeSpec := { name := "fnExactDiscreteOf", fn := fun _ => fun
  | [d1, d2] => { results := [.lit (.bool false)], args := [d1, d2] }
  | _ => none }
def FnExactDiscreteOfWrongFalsely : Prop := fnExactDiscreteOfRow.holds Try.pinned (OpenSpec.ofChange fnExactDiscreteOfWrong)

/- THE SECOND FORM. 'bulk': how many values and letters a reading holds, each counted each time it is reached (what is shared counts as often as it is met; a slice's spare places count too). A statement '..UptoSaid' is the law's where the arguments, and the package variables that the reading takes, are together of bulk at most 1048576: NARROWER than '..Said'. Prove '..Said' where nothing that the law and all that it calls make is longer than what came in: it says more and counts as full. Else prove '..UptoSaid'. A law counts once. -/
mutual
def uptoBulk {H : Type} : DataW H → Nat
  | .lit (.string bytes) => bytes.length + 1
  | .lit _ => 1
  | .nil => 1
  | .ptr d => uptoBulk d + 1
  | .slice elems spare => uptoBulkAll elems + uptoBulkAll spare + 1
  | .agg parts => uptoBulkAll parts + 1
  | .iface _ d => uptoBulk d + 1
  | .map entries => uptoBulkEntries entries + 1
  | .held _ => 1
def uptoBulkAll {H : Type} : List (DataW H) → Nat
  | [] => 0
  | d :: r => uptoBulk d + uptoBulkAll r
def uptoBulkEntries {H : Type} : List (Lit × DataW H) → Nat
  | [] => 0
  | x :: r => uptoBulkEntry x + uptoBulkEntries r
def uptoBulkEntry {H : Type} : Lit × DataW H → Nat
  | (.string bytes, d) => bytes.length + uptoBulk d + 1
  | (_, d) => uptoBulk d + 1
 end
def uptoSmall : (H : Type) → List (DataW H) → Bool := fun _ ds => decide (uptoBulkAll ds ≤ 1048576)
def OpenSpec.upto (s : _root_.Go.ChangeSpec) : _root_.Go.OpenSpec := { _root_.Go.OpenSpec.ofChange s with cond := some uptoSmall }

/-- 'laws.FnExactLinkParts', WHERE WHAT IT READS IS OF BULK AT MOST 1048576: true; the input reads as it did. -/
def fnExactLinkPartsUptoRow : OpenClaim := { program := "ytemahmnchcnfeab", sum := "c6c17312874a2d8d430480a4c0de2e1b8f7f2c1a958edc3e9b184bb081d18dcc", func := "loop.example/g01082/laws.FnExactLinkParts", spec := "fnExactLinkParts", unfollowed := true, recurses := true, apart := false, narrowed := true }
def FnExactLinkPartsUptoSaid : Prop := fnExactLinkPartsUptoRow.holds Try.pinned (OpenSpec.upto fnExactLinkPartsSpec)

/-- 'laws.FnExactRenumberNodes', WHERE WHAT IT READS IS OF BULK AT MOST 1048576: true; the input reads as it did. -/
def fnExactRenumberNodesUptoRow : OpenClaim := { program := "ytemahmnchcnfeab", sum := "c6c17312874a2d8d430480a4c0de2e1b8f7f2c1a958edc3e9b184bb081d18dcc", func := "loop.example/g01082/laws.FnExactRenumberNodes", spec := "fnExactRenumberNodes", unfollowed := true, recurses := true, apart := false, narrowed := true }
def FnExactRenumberNodesUptoSaid : Prop := fnExactRenumberNodesUptoRow.holds Try.pinned (OpenSpec.upto fnExactRenumberNodesSpec)

/-- 'laws.FnExactIdentityOf', WHERE WHAT IT READS IS OF BULK AT MOST 1048576: true; the input reads as it did. -/
def fnExactIdentityOfUptoRow : OpenClaim := { program := "ytemahmnchcnfeab", sum := "c6c17312874a2d8d430480a4c0de2e1b8f7f2c1a958edc3e9b184bb081d18dcc", func := "loop.example/g01082/laws.FnExactIdentityOf", spec := "fnExactIdentityOf", unfollowed := true, recurses := true, apart := false, narrowed := true }
def FnExactIdentityOfUptoSaid : Prop := fnExactIdentityOfUptoRow.holds Try.pinned (OpenSpec.upto fnExactIdentityOfSpec)

/-- 'laws.FnExactPermutationOf', WHERE WHAT IT READS IS OF BULK AT MOST 1048576: true; the input reads as it did. -/
def fnExactPermutationOfUptoRow : OpenClaim := { program := "ytemahmnchcnfeab", sum := "c6c17312874a2d8d430480a4c0de2e1b8f7f2c1a958edc3e9b184bb081d18dcc", func := "loop.example/g01082/laws.FnExactPermutationOf", spec := "fnExactPermutationOf", apart := false, narrowed := true }
def FnExactPermutationOfUptoSaid : Prop := fnExactPermutationOfUptoRow.holds Try.pinned (OpenSpec.upto fnExactPermutationOfSpec)

/-- 'laws.FnExactSwapOf', WHERE WHAT IT READS IS OF BULK AT MOST 1048576: true; the input reads as it did. -/
def fnExactSwapOfUptoRow : OpenClaim := { program := "ytemahmnchcnfeab", sum := "c6c17312874a2d8d430480a4c0de2e1b8f7f2c1a958edc3e9b184bb081d18dcc", func := "loop.example/g01082/laws.FnExactSwapOf", spec := "fnExactSwapOf", apart := false, narrowed := true }
def FnExactSwapOfUptoSaid : Prop := fnExactSwapOfUptoRow.holds Try.pinned (OpenSpec.upto fnExactSwapOfSpec)

/-- 'laws.FnExactMergeOf', WHERE WHAT IT READS IS OF BULK AT MOST 1048576: true; the input reads as it did. -/
def fnExactMergeOfUptoRow : OpenClaim := { program := "ytemahmnchcnfeab", sum := "c6c17312874a2d8d430480a4c0de2e1b8f7f2c1a958edc3e9b184bb081d18dcc", func := "loop.example/g01082/laws.FnExactMergeOf", spec := "fnExactMergeOf", apart := false, narrowed := true }
def FnExactMergeOfUptoSaid : Prop := fnExactMergeOfUptoRow.holds Try.pinned (OpenSpec.upto fnExactMergeOfSpec)

/-- 'laws.FnExactBarrenOf', WHERE WHAT IT READS IS OF BULK AT MOST 1048576: true; the input reads as it did. -/
def fnExactBarrenOfUptoRow : OpenClaim := { program := "ytemahmnchcnfeab", sum := "c6c17312874a2d8d430480a4c0de2e1b8f7f2c1a958edc3e9b184bb081d18dcc", func := "loop.example/g01082/laws.FnExactBarrenOf", spec := "fnExactBarrenOf", apart := false, narrowed := true }
def FnExactBarrenOfUptoSaid : Prop := fnExactBarrenOfUptoRow.holds Try.pinned (OpenSpec.upto fnExactBarrenOfSpec)

/-- 'laws.FnExactIonOf', WHERE WHAT IT READS IS OF BULK AT MOST 1048576: true; the input reads as it did. -/
def fnExactIonOfUptoRow : OpenClaim := { program := "ytemahmnchcnfeab", sum := "c6c17312874a2d8d430480a4c0de2e1b8f7f2c1a958edc3e9b184bb081d18dcc", func := "loop.example/g01082/laws.FnExactIonOf", spec := "fnExactIonOf", unfollowed := true, recurses := true, apart := false, narrowed := true }
def FnExactIonOfUptoSaid : Prop := fnExactIonOfUptoRow.holds Try.pinned (OpenSpec.upto fnExactIonOfSpec)

/-- 'laws.FnExactAtomOf', WHERE WHAT IT READS IS OF BULK AT MOST 1048576: true; the input reads as it did. -/
def fnExactAtomOfUptoRow : OpenClaim := { program := "ytemahmnchcnfeab", sum := "c6c17312874a2d8d430480a4c0de2e1b8f7f2c1a958edc3e9b184bb081d18dcc", func := "loop.example/g01082/laws.FnExactAtomOf", spec := "fnExactAtomOf", unfollowed := true, recurses := true, apart := false, narrowed := true }
def FnExactAtomOfUptoSaid : Prop := fnExactAtomOfUptoRow.holds Try.pinned (OpenSpec.upto fnExactAtomOfSpec)

/-- 'laws.FnExactSubstitutionOf', WHERE WHAT IT READS IS OF BULK AT MOST 1048576: true; the input reads as it did. -/
def fnExactSubstitutionOfUptoRow : OpenClaim := { program := "ytemahmnchcnfeab", sum := "c6c17312874a2d8d430480a4c0de2e1b8f7f2c1a958edc3e9b184bb081d18dcc", func := "loop.example/g01082/laws.FnExactSubstitutionOf", spec := "fnExactSubstitutionOf", unfollowed := true, recurses := true, apart := false, narrowed := true }
def FnExactSubstitutionOfUptoSaid : Prop := fnExactSubstitutionOfUptoRow.holds Try.pinned (OpenSpec.upto fnExactSubstitutionOfSpec)

/-- 'laws.FnExactNewNames', WHERE WHAT IT READS IS OF BULK AT MOST 1048576: true; the input reads as it did. -/
def fnExactNewNamesUptoRow : OpenClaim := { program := "ytemahmnchcnfeab", sum := "c6c17312874a2d8d430480a4c0de2e1b8f7f2c1a958edc3e9b184bb081d18dcc", func := "loop.example/g01082/laws.FnExactNewNames", spec := "fnExactNewNames", apart := false, narrowed := true }
def FnExactNewNamesUptoSaid : Prop := fnExactNewNamesUptoRow.holds Try.pinned (OpenSpec.upto fnExactNewNamesSpec)

/-- 'laws.FnExactClosureOf', WHERE WHAT IT READS IS OF BULK AT MOST 1048576: true; the input reads as it did. -/
def fnExactClosureOfUptoRow : OpenClaim := { program := "ytemahmnchcnfeab", sum := "c6c17312874a2d8d430480a4c0de2e1b8f7f2c1a958edc3e9b184bb081d18dcc", func := "loop.example/g01082/laws.FnExactClosureOf", spec := "fnExactClosureOf", apart := false, narrowed := true }
def FnExactClosureOfUptoSaid : Prop := fnExactClosureOfUptoRow.holds Try.pinned (OpenSpec.upto fnExactClosureOfSpec)

/-- 'laws.FnExactDiscreteOf', WHERE WHAT IT READS IS OF BULK AT MOST 1048576: true; the input reads as it did. -/
def fnExactDiscreteOfUptoRow : OpenClaim := { program := "ytemahmnchcnfeab", sum := "c6c17312874a2d8d430480a4c0de2e1b8f7f2c1a958edc3e9b184bb081d18dcc", func := "loop.example/g01082/laws.FnExactDiscreteOf", spec := "fnExactDiscreteOf", unfollowed := true, recurses := true, apart := false, narrowed := true }
def FnExactDiscreteOfUptoSaid : Prop := fnExactDiscreteOfUptoRow.holds Try.pinned (OpenSpec.upto fnExactDiscreteOfSpec)

end Rows
end Go.Proofs.Ytemahmnchcnfeab
