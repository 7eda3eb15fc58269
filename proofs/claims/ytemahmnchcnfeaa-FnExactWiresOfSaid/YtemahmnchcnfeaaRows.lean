/-
  No cell of these rows narrows 'for every input' (looked for: loops, veiled, ifaces, maps, wideKeys, modest, calm, conditions, laid).
  DERIVED. THE GIVEN ROWS OF THIS SEAT. 15 by the template 'for every input the law returns true; each argument reads behind the call as it read before'; 0 by the template 'total and deterministic' (their statements: YtemahmnchcnfeaaTotals.lean).
  GIVEN WITH THE SEED: the statements are not yours to turn. If you find one false, say at which input.
  Laid BY PROGRAM, IN A SANDBOX (cutbox-rows.mjs): the forced cells as the released guide's own fill.sh prints them over the translation 8e5083c55a97a124… (all of the seat's roots in one cut). By AI agents, Wed Nov 11 2026. No macro, syntax, notation, axiom, sorry.
-/
import Derived.Test.YtemahmnchcnfeaaChecked
import GoSem.Claim
import GoSem.ClaimJoined
import GoSem.ClaimMapViews
import Derived.JoinedTies
import Derived.KernelRfl
namespace Go.Proofs.Ytemahmnchcnfeaa
/- THE CELL 'sum', in the pinned program and in every row, IS THE sha256 OF THE DUMP (.gsa) THAT YtemahmnchcnfeaaProg.lean LOADS. Nothing in Lean hashes anything: it is a label: what it is worth is what the hold of that sum in a sandbox is worth. -/
noncomputable def Try.pinned : Pinned := { name := "ytemahmnchcnfeaa", sum := "8e5083c55a97a1244247a9641acf381fe0ce9ffe27375c5d5a21cf87f17af9d2", checked := Try.checked }
namespace Rows
def none {H : Type} : Left H := { results := [], args := [] }

/-- 'laws.FnExactIsPlacing': WHATEVER THE INPUT: true; the input reads as it did. -/
def fnExactIsPlacingSpec : ChangeSpec := { name := "fnExactIsPlacing", fn := fun _ => fun
  | [d1, d2] => { results := [.lit (.bool true)], args := [d1, d2] }
  | _ => none }
def fnExactIsPlacingRow : OpenClaim := { program := "ytemahmnchcnfeaa", sum := "8e5083c55a97a1244247a9641acf381fe0ce9ffe27375c5d5a21cf87f17af9d2", func := "loop.example/g01082/laws.FnExactIsPlacing", spec := "fnExactIsPlacing", unfollowed := true, recurses := true, apart := false }
def FnExactIsPlacingSaid : Prop := fnExactIsPlacingRow.holds Try.pinned (OpenSpec.ofChange fnExactIsPlacingSpec)

/-- ITS FALSE NEIGHBOUR: 'it returns false'. Refute it at one input. -/
def fnExactIsPlacingWrong : ChangeSpec := { name := "fnExactIsPlacing", fn := fun _ => fun
  | [d1, d2] => { results := [.lit (.bool false)], args := [d1, d2] }
  | _ => none }
def FnExactIsPlacingWrongFalsely : Prop := fnExactIsPlacingRow.holds Try.pinned (OpenSpec.ofChange fnExactIsPlacingWrong)

/-- 'laws.FnExactIsPermutation': WHATEVER THE INPUT: true; the input reads as it did. -/
def fnExactIsPermutationSpec : ChangeSpec := { name := "fnExactIsPermutation", fn := fun _ => fun
  | [d1, d2] => { results := [.lit (.bool true)], args := [d1, d2] }
  | _ => none }
def fnExactIsPermutationRow : OpenClaim := { program := "ytemahmnchcnfeaa", sum := "8e5083c55a97a1244247a9641acf381fe0ce9ffe27375c5d5a21cf87f17af9d2", func := "loop.example/g01082/laws.FnExactIsPermutation", spec := "fnExactIsPermutation", unfollowed := true, recurses := true, apart := false }
def FnExactIsPermutationSaid : Prop := fnExactIsPermutationRow.holds Try.pinned (OpenSpec.ofChange fnExactIsPermutationSpec)

/-- ITS FALSE NEIGHBOUR: 'it returns false'. Refute it at one input. -/
def fnExactIsPermutationWrong : ChangeSpec := { name := "fnExactIsPermutation", fn := fun _ => fun
  | [d1, d2] => { results := [.lit (.bool false)], args := [d1, d2] }
  | _ => none }
def FnExactIsPermutationWrongFalsely : Prop := fnExactIsPermutationRow.holds Try.pinned (OpenSpec.ofChange fnExactIsPermutationWrong)

/-- 'laws.FnExactIsIdentity': WHATEVER THE INPUT: true; the input reads as it did. -/
def fnExactIsIdentitySpec : ChangeSpec := { name := "fnExactIsIdentity", fn := fun _ => fun
  | [d1, d2] => { results := [.lit (.bool true)], args := [d1, d2] }
  | _ => none }
def fnExactIsIdentityRow : OpenClaim := { program := "ytemahmnchcnfeaa", sum := "8e5083c55a97a1244247a9641acf381fe0ce9ffe27375c5d5a21cf87f17af9d2", func := "loop.example/g01082/laws.FnExactIsIdentity", spec := "fnExactIsIdentity", unfollowed := true, recurses := true, apart := false }
def FnExactIsIdentitySaid : Prop := fnExactIsIdentityRow.holds Try.pinned (OpenSpec.ofChange fnExactIsIdentitySpec)

/-- ITS FALSE NEIGHBOUR: 'it returns false'. Refute it at one input. -/
def fnExactIsIdentityWrong : ChangeSpec := { name := "fnExactIsIdentity", fn := fun _ => fun
  | [d1, d2] => { results := [.lit (.bool false)], args := [d1, d2] }
  | _ => none }
def FnExactIsIdentityWrongFalsely : Prop := fnExactIsIdentityRow.holds Try.pinned (OpenSpec.ofChange fnExactIsIdentityWrong)

/-- 'laws.FnExactIsWiring': WHATEVER THE INPUT: true; the input reads as it did. -/
def fnExactIsWiringSpec : ChangeSpec := { name := "fnExactIsWiring", fn := fun _ => fun
  | [d1, d2] => { results := [.lit (.bool true)], args := [d1, d2] }
  | _ => none }
def fnExactIsWiringRow : OpenClaim := { program := "ytemahmnchcnfeaa", sum := "8e5083c55a97a1244247a9641acf381fe0ce9ffe27375c5d5a21cf87f17af9d2", func := "loop.example/g01082/laws.FnExactIsWiring", spec := "fnExactIsWiring", unfollowed := true, recurses := true, apart := false }
def FnExactIsWiringSaid : Prop := fnExactIsWiringRow.holds Try.pinned (OpenSpec.ofChange fnExactIsWiringSpec)

/-- ITS FALSE NEIGHBOUR: 'it returns false'. Refute it at one input. -/
def fnExactIsWiringWrong : ChangeSpec := { name := "fnExactIsWiring", fn := fun _ => fun
  | [d1, d2] => { results := [.lit (.bool false)], args := [d1, d2] }
  | _ => none }
def FnExactIsWiringWrongFalsely : Prop := fnExactIsWiringRow.holds Try.pinned (OpenSpec.ofChange fnExactIsWiringWrong)

/-- 'laws.FnExactIsSubstitution': WHATEVER THE INPUT: true; the input reads as it did. -/
def fnExactIsSubstitutionSpec : ChangeSpec := { name := "fnExactIsSubstitution", fn := fun _ => fun
  | [d1, d2] => { results := [.lit (.bool true)], args := [d1, d2] }
  | _ => none }
def fnExactIsSubstitutionRow : OpenClaim := { program := "ytemahmnchcnfeaa", sum := "8e5083c55a97a1244247a9641acf381fe0ce9ffe27375c5d5a21cf87f17af9d2", func := "loop.example/g01082/laws.FnExactIsSubstitution", spec := "fnExactIsSubstitution", unfollowed := true, recurses := true, apart := false }
def FnExactIsSubstitutionSaid : Prop := fnExactIsSubstitutionRow.holds Try.pinned (OpenSpec.ofChange fnExactIsSubstitutionSpec)

/-- ITS FALSE NEIGHBOUR: 'it returns false'. Refute it at one input. -/
def fnExactIsSubstitutionWrong : ChangeSpec := { name := "fnExactIsSubstitution", fn := fun _ => fun
  | [d1, d2] => { results := [.lit (.bool false)], args := [d1, d2] }
  | _ => none }
def FnExactIsSubstitutionWrongFalsely : Prop := fnExactIsSubstitutionRow.holds Try.pinned (OpenSpec.ofChange fnExactIsSubstitutionWrong)

/-- 'laws.FnExactIsRenaming': WHATEVER THE INPUT: true; the input reads as it did. -/
def fnExactIsRenamingSpec : ChangeSpec := { name := "fnExactIsRenaming", fn := fun _ => fun
  | [d1, d2] => { results := [.lit (.bool true)], args := [d1, d2] }
  | _ => none }
def fnExactIsRenamingRow : OpenClaim := { program := "ytemahmnchcnfeaa", sum := "8e5083c55a97a1244247a9641acf381fe0ce9ffe27375c5d5a21cf87f17af9d2", func := "loop.example/g01082/laws.FnExactIsRenaming", spec := "fnExactIsRenaming", unfollowed := true, recurses := true, apart := false }
def FnExactIsRenamingSaid : Prop := fnExactIsRenamingRow.holds Try.pinned (OpenSpec.ofChange fnExactIsRenamingSpec)

/-- ITS FALSE NEIGHBOUR: 'it returns false'. Refute it at one input. -/
def fnExactIsRenamingWrong : ChangeSpec := { name := "fnExactIsRenaming", fn := fun _ => fun
  | [d1, d2] => { results := [.lit (.bool false)], args := [d1, d2] }
  | _ => none }
def FnExactIsRenamingWrongFalsely : Prop := fnExactIsRenamingRow.holds Try.pinned (OpenSpec.ofChange fnExactIsRenamingWrong)

/-- 'laws.FnExactIsDiscrete': WHATEVER THE INPUT: true; the input reads as it did. -/
def fnExactIsDiscreteSpec : ChangeSpec := { name := "fnExactIsDiscrete", fn := fun _ => fun
  | [d1, d2] => { results := [.lit (.bool true)], args := [d1, d2] }
  | _ => none }
def fnExactIsDiscreteRow : OpenClaim := { program := "ytemahmnchcnfeaa", sum := "8e5083c55a97a1244247a9641acf381fe0ce9ffe27375c5d5a21cf87f17af9d2", func := "loop.example/g01082/laws.FnExactIsDiscrete", spec := "fnExactIsDiscrete", unfollowed := true, recurses := true, apart := false }
def FnExactIsDiscreteSaid : Prop := fnExactIsDiscreteRow.holds Try.pinned (OpenSpec.ofChange fnExactIsDiscreteSpec)

/-- ITS FALSE NEIGHBOUR: 'it returns false'. Refute it at one input. -/
def fnExactIsDiscreteWrong : ChangeSpec := { name := "fnExactIsDiscrete", fn := fun _ => fun
  | [d1, d2] => { results := [.lit (.bool false)], args := [d1, d2] }
  | _ => none }
def FnExactIsDiscreteWrongFalsely : Prop := fnExactIsDiscreteRow.holds Try.pinned (OpenSpec.ofChange fnExactIsDiscreteWrong)

/-- 'laws.FnExactIsPrime': WHATEVER THE INPUT: true; the input reads as it did. -/
def fnExactIsPrimeSpec : ChangeSpec := { name := "fnExactIsPrime", fn := fun _ => fun
  | [d1, d2] => { results := [.lit (.bool true)], args := [d1, d2] }
  | _ => none }
def fnExactIsPrimeRow : OpenClaim := { program := "ytemahmnchcnfeaa", sum := "8e5083c55a97a1244247a9641acf381fe0ce9ffe27375c5d5a21cf87f17af9d2", func := "loop.example/g01082/laws.FnExactIsPrime", spec := "fnExactIsPrime", unfollowed := true, recurses := true, apart := false }
def FnExactIsPrimeSaid : Prop := fnExactIsPrimeRow.holds Try.pinned (OpenSpec.ofChange fnExactIsPrimeSpec)

/-- ITS FALSE NEIGHBOUR: 'it returns false'. Refute it at one input. -/
def fnExactIsPrimeWrong : ChangeSpec := { name := "fnExactIsPrime", fn := fun _ => fun
  | [d1, d2] => { results := [.lit (.bool false)], args := [d1, d2] }
  | _ => none }
def FnExactIsPrimeWrongFalsely : Prop := fnExactIsPrimeRow.holds Try.pinned (OpenSpec.ofChange fnExactIsPrimeWrong)

/-- 'laws.FnExactIsLean': WHATEVER THE INPUT: true; the input reads as it did. -/
def fnExactIsLeanSpec : ChangeSpec := { name := "fnExactIsLean", fn := fun _ => fun
  | [d1, d2] => { results := [.lit (.bool true)], args := [d1, d2] }
  | _ => none }
def fnExactIsLeanRow : OpenClaim := { program := "ytemahmnchcnfeaa", sum := "8e5083c55a97a1244247a9641acf381fe0ce9ffe27375c5d5a21cf87f17af9d2", func := "loop.example/g01082/laws.FnExactIsLean", spec := "fnExactIsLean", unfollowed := true, recurses := true, apart := false }
def FnExactIsLeanSaid : Prop := fnExactIsLeanRow.holds Try.pinned (OpenSpec.ofChange fnExactIsLeanSpec)

/-- ITS FALSE NEIGHBOUR: 'it returns false'. Refute it at one input. -/
def fnExactIsLeanWrong : ChangeSpec := { name := "fnExactIsLean", fn := fun _ => fun
  | [d1, d2] => { results := [.lit (.bool false)], args := [d1, d2] }
  | _ => none }
def FnExactIsLeanWrongFalsely : Prop := fnExactIsLeanRow.holds Try.pinned (OpenSpec.ofChange fnExactIsLeanWrong)

/-- 'laws.FnExactIsGuarding': WHATEVER THE INPUT: true; the input reads as it did. -/
def fnExactIsGuardingSpec : ChangeSpec := { name := "fnExactIsGuarding", fn := fun _ => fun
  | [d1, d2] => { results := [.lit (.bool true)], args := [d1, d2] }
  | _ => none }
def fnExactIsGuardingRow : OpenClaim := { program := "ytemahmnchcnfeaa", sum := "8e5083c55a97a1244247a9641acf381fe0ce9ffe27375c5d5a21cf87f17af9d2", func := "loop.example/g01082/laws.FnExactIsGuarding", spec := "fnExactIsGuarding", unfollowed := true, recurses := true, apart := false }
def FnExactIsGuardingSaid : Prop := fnExactIsGuardingRow.holds Try.pinned (OpenSpec.ofChange fnExactIsGuardingSpec)

/-- ITS FALSE NEIGHBOUR: 'it returns false'. Refute it at one input. -/
def fnExactIsGuardingWrong : ChangeSpec := { name := "fnExactIsGuarding", fn := fun _ => fun
  | [d1, d2] => { results := [.lit (.bool false)], args := [d1, d2] }
  | _ => none }
def FnExactIsGuardingWrongFalsely : Prop := fnExactIsGuardingRow.holds Try.pinned (OpenSpec.ofChange fnExactIsGuardingWrong)

/-- 'laws.FnExactShadowOf': WHATEVER THE INPUT: true; the input reads as it did. -/
def fnExactShadowOfSpec : ChangeSpec := { name := "fnExactShadowOf", fn := fun _ => fun
  | [d1, d2] => { results := [.lit (.bool true)], args := [d1, d2] }
  | _ => none }
def fnExactShadowOfRow : OpenClaim := { program := "ytemahmnchcnfeaa", sum := "8e5083c55a97a1244247a9641acf381fe0ce9ffe27375c5d5a21cf87f17af9d2", func := "loop.example/g01082/laws.FnExactShadowOf", spec := "fnExactShadowOf", unfollowed := true, recurses := true, apart := false }
def FnExactShadowOfSaid : Prop := fnExactShadowOfRow.holds Try.pinned (OpenSpec.ofChange fnExactShadowOfSpec)

/-- ITS FALSE NEIGHBOUR: 'it returns false'. Refute it at one input. -/
def fnExactShadowOfWrong : ChangeSpec := { name := "fnExactShadowOf", fn := fun _ => fun
  | [d1, d2] => { results := [.lit (.bool false)], args := [d1, d2] }
  | _ => none }
def FnExactShadowOfWrongFalsely : Prop := fnExactShadowOfRow.holds Try.pinned (OpenSpec.ofChange fnExactShadowOfWrong)

/-- 'laws.FnExactWiresOf': WHATEVER THE INPUT: true; the input reads as it did. -/
def fnExactWiresOfSpec : ChangeSpec := { name := "fnExactWiresOf", fn := fun _ => fun
  | [d1, d2] => { results := [.lit (.bool true)], args := [d1, d2] }
  | _ => none }
def fnExactWiresOfRow : OpenClaim := { program := "ytemahmnchcnfeaa", sum := "8e5083c55a97a1244247a9641acf381fe0ce9ffe27375c5d5a21cf87f17af9d2", func := "loop.example/g01082/laws.FnExactWiresOf", spec := "fnExactWiresOf", unfollowed := true, recurses := true, apart := false }
def FnExactWiresOfSaid : Prop := fnExactWiresOfRow.holds Try.pinned (OpenSpec.ofChange fnExactWiresOfSpec)

/-- ITS FALSE NEIGHBOUR: 'it returns false'. Refute it at one input. -/
def fnExactWiresOfWrong : ChangeSpec := { name := "fnExactWiresOf", fn := fun _ => fun
  | [d1, d2] => { results := [.lit (.bool false)], args := [d1, d2] }
  | _ => none }
def FnExactWiresOfWrongFalsely : Prop := fnExactWiresOfRow.holds Try.pinned (OpenSpec.ofChange fnExactWiresOfWrong)

/-- 'laws.FnExactLeanOf': WHATEVER THE INPUT: true; the input reads as it did. -/
def fnExactLeanOfSpec : ChangeSpec := { name := "fnExactLeanOf", fn := fun _ => fun
  | [d1, d2] => { results := [.lit (.bool true)], args := [d1, d2] }
  | _ => none }
def fnExactLeanOfRow : OpenClaim := { program := "ytemahmnchcnfeaa", sum := "8e5083c55a97a1244247a9641acf381fe0ce9ffe27375c5d5a21cf87f17af9d2", func := "loop.example/g01082/laws.FnExactLeanOf", spec := "fnExactLeanOf", unfollowed := true, recurses := true, apart := false }
def FnExactLeanOfSaid : Prop := fnExactLeanOfRow.holds Try.pinned (OpenSpec.ofChange fnExactLeanOfSpec)

/-- ITS FALSE NEIGHBOUR: 'it returns false'. Refute it at one input. -/
def fnExactLeanOfWrong : ChangeSpec := { name := "fnExactLeanOf", fn := fun _ => fun
  | [d1, d2] => { results := [.lit (.bool false)], args := [d1, d2] }
  | _ => none }
def FnExactLeanOfWrongFalsely : Prop := fnExactLeanOfRow.holds Try.pinned (OpenSpec.ofChange fnExactLeanOfWrong)

/-- 'laws.FnExactComposeWirings': WHATEVER THE INPUT: true; the input reads as it did. -/
def fnExactComposeWiringsSpec : ChangeSpec := { name := "fnExactComposeWirings", fn := fun _ => fun
  | [d1, d2, d3] => { results := [.lit (.bool true)], args := [d1, d2, d3] }
  | _ => none }
def fnExactComposeWiringsRow : OpenClaim := { program := "ytemahmnchcnfeaa", sum := "8e5083c55a97a1244247a9641acf381fe0ce9ffe27375c5d5a21cf87f17af9d2", func := "loop.example/g01082/laws.FnExactComposeWirings", spec := "fnExactComposeWirings", unfollowed := true, recurses := true, apart := false }
def FnExactComposeWiringsSaid : Prop := fnExactComposeWiringsRow.holds Try.pinned (OpenSpec.ofChange fnExactComposeWiringsSpec)

/-- ITS FALSE NEIGHBOUR: 'it returns false'. Refute it at one input. -/
def fnExactComposeWiringsWrong : ChangeSpec := { name := "fnExactComposeWirings", fn := fun _ => fun
  | [d1, d2, d3] => { results := [.lit (.bool false)], args := [d1, d2, d3] }
  | _ => none }
def FnExactComposeWiringsWrongFalsely : Prop := fnExactComposeWiringsRow.holds Try.pinned (OpenSpec.ofChange fnExactComposeWiringsWrong)

/-- 'laws.FnExactPointsOf': WHATEVER THE INPUT: true; the input reads as it did. -/
def fnExactPointsOfSpec : ChangeSpec := { name := "fnExactPointsOf", fn := fun _ => fun
  | [d1, d2, d3] => { results := [.lit (.bool true)], args := [d1, d2, d3] }
  | _ => none }
def fnExactPointsOfRow : OpenClaim := { program := "ytemahmnchcnfeaa", sum := "8e5083c55a97a1244247a9641acf381fe0ce9ffe27375c5d5a21cf87f17af9d2", func := "loop.example/g01082/laws.FnExactPointsOf", spec := "fnExactPointsOf", unfollowed := true, recurses := true, apart := false }
def FnExactPointsOfSaid : Prop := fnExactPointsOfRow.holds Try.pinned (OpenSpec.ofChange fnExactPointsOfSpec)

/-- ITS FALSE NEIGHBOUR: 'it returns false'. Refute it at one input. -/
def fnExactPointsOfWrong : ChangeSpec := { name := "fnExactPointsOf", fn := fun _ => fun
  | [d1, d2, d3] => { results := [.lit (.bool false)], args := [d1, d2, d3] }
  | _ => none }
def FnExactPointsOfWrongFalsely : Prop := fnExactPointsOfRow.holds Try.pinned (OpenSpec.ofChange fnExactPointsOfWrong)

/- THE SECOND FORM. 'bulk': how many values and letters a reading holds, each counted each time it is reached (what is shared counts as often as it is met; a slice's spare places count too). A statement '..UptoSaid' is the law's where the arguments, and the package variables that the reading takes, are together of bulk at most 1048576: NARROWER than '..Said'. Prove '..Said' where nothing that the law and all that it calls make is longer than what came in: it says more and counts as full. Else prove '..UptoSaid'. A law counts once. -/
mutual
def uptoBulk {H : Type} : DataW H → Nat
  | .lit (.string bytes) => bytes.length + 1
  | .lit _ => 1
  | .nil => 1
  | .ptr d => uptoBulk d + 1
  | .slice elems spare => uptoBulkAll elems + uptoBulkAll spare + 1
  | .agg parts => uptoBulkAll parts + 1
  | .iface _ d => uptoBulk d + 1
  | .map entries => uptoBulkEntries entries + 1
  | .held _ => 1
def uptoBulkAll {H : Type} : List (DataW H) → Nat
  | [] => 0
  | d :: r => uptoBulk d + uptoBulkAll r
def uptoBulkEntries {H : Type} : List (Lit × DataW H) → Nat
  | [] => 0
  | x :: r => uptoBulkEntry x + uptoBulkEntries r
def uptoBulkEntry {H : Type} : Lit × DataW H → Nat
  | (.string bytes, d) => bytes.length + uptoBulk d + 1
  | (_, d) => uptoBulk d + 1
 end
def uptoSmall : (H : Type) → List (DataW H) → Bool := fun _ ds => decide (uptoBulkAll ds ≤ 1048576)
def OpenSpec.upto (s : _root_.Go.ChangeSpec) : _root_.Go.OpenSpec := { _root_.Go.OpenSpec.ofChange s with cond := some uptoSmall }

/-- 'laws.FnExactIsPlacing', WHERE WHAT IT READS IS OF BULK AT MOST 1048576: true; the input reads as it did. -/
def fnExactIsPlacingUptoRow : OpenClaim := { program := "ytemahmnchcnfeaa", sum := "8e5083c55a97a1244247a9641acf381fe0ce9ffe27375c5d5a21cf87f17af9d2", func := "loop.example/g01082/laws.FnExactIsPlacing", spec := "fnExactIsPlacing", unfollowed := true, recurses := true, apart := false, narrowed := true }
def FnExactIsPlacingUptoSaid : Prop := fnExactIsPlacingUptoRow.holds Try.pinned (OpenSpec.upto fnExactIsPlacingSpec)

/-- 'laws.FnExactIsPermutation', WHERE WHAT IT READS IS OF BULK AT MOST 1048576: true; the input reads as it did. -/
def fnExactIsPermutationUptoRow : OpenClaim := { program := "ytemahmnchcnfeaa", sum := "8e5083c55a97a1244247a9641acf381fe0ce9ffe27375c5d5a21cf87f17af9d2", func := "loop.example/g01082/laws.FnExactIsPermutation", spec := "fnExactIsPermutation", unfollowed := true, recurses := true, apart := false, narrowed := true }
def FnExactIsPermutationUptoSaid : Prop := fnExactIsPermutationUptoRow.holds Try.pinned (OpenSpec.upto fnExactIsPermutationSpec)

/-- 'laws.FnExactIsIdentity', WHERE WHAT IT READS IS OF BULK AT MOST 1048576: true; the input reads as it did. -/
def fnExactIsIdentityUptoRow : OpenClaim := { program := "ytemahmnchcnfeaa", sum := "8e5083c55a97a1244247a9641acf381fe0ce9ffe27375c5d5a21cf87f17af9d2", func := "loop.example/g01082/laws.FnExactIsIdentity", spec := "fnExactIsIdentity", unfollowed := true, recurses := true, apart := false, narrowed := true }
def FnExactIsIdentityUptoSaid : Prop := fnExactIsIdentityUptoRow.holds Try.pinned (OpenSpec.upto fnExactIsIdentitySpec)

/-- 'laws.FnExactIsWiring', WHERE WHAT IT READS IS OF BULK AT MOST 1048576: true; the input reads as it did. -/
def fnExactIsWiringUptoRow : OpenClaim := { program := "ytemahmnchcnfeaa", sum := "8e5083c55a97a1244247a9641acf381fe0ce9ffe27375c5d5a21cf87f17af9d2", func := "loop.example/g01082/laws.FnExactIsWiring", spec := "fnExactIsWiring", unfollowed := true, recurses := true, apart := false, narrowed := true }
def FnExactIsWiringUptoSaid : Prop := fnExactIsWiringUptoRow.holds Try.pinned (OpenSpec.upto fnExactIsWiringSpec)

/-- 'laws.FnExactIsSubstitution', WHERE WHAT IT READS IS OF BULK AT MOST 1048576: true; the input reads as it did. -/
def fnExactIsSubstitutionUptoRow : OpenClaim := { program := "ytemahmnchcnfeaa", sum := "8e5083c55a97a1244247a9641acf381fe0ce9ffe27375c5d5a21cf87f17af9d2", func := "loop.example/g01082/laws.FnExactIsSubstitution", spec := "fnExactIsSubstitution", unfollowed := true, recurses := true, apart := false, narrowed := true }
def FnExactIsSubstitutionUptoSaid : Prop := fnExactIsSubstitutionUptoRow.holds Try.pinned (OpenSpec.upto fnExactIsSubstitutionSpec)

/-- 'laws.FnExactIsRenaming', WHERE WHAT IT READS IS OF BULK AT MOST 1048576: true; the input reads as it did. -/
def fnExactIsRenamingUptoRow : OpenClaim := { program := "ytemahmnchcnfeaa", sum := "8e5083c55a97a1244247a9641acf381fe0ce9ffe27375c5d5a21cf87f17af9d2", func := "loop.example/g01082/laws.FnExactIsRenaming", spec := "fnExactIsRenaming", unfollowed := true, recurses := true, apart := false, narrowed := true }
def FnExactIsRenamingUptoSaid : Prop := fnExactIsRenamingUptoRow.holds Try.pinned (OpenSpec.upto fnExactIsRenamingSpec)

/-- 'laws.FnExactIsDiscrete', WHERE WHAT IT READS IS OF BULK AT MOST 1048576: true; the input reads as it did. -/
def fnExactIsDiscreteUptoRow : OpenClaim := { program := "ytemahmnchcnfeaa", sum := "8e5083c55a97a1244247a9641acf381fe0ce9ffe27375c5d5a21cf87f17af9d2", func := "loop.example/g01082/laws.FnExactIsDiscrete", spec := "fnExactIsDiscrete", unfollowed := true, recurses := true, apart := false, narrowed := true }
def FnExactIsDiscreteUptoSaid : Prop := fnExactIsDiscreteUptoRow.holds Try.pinned (OpenSpec.upto fnExactIsDiscreteSpec)

/-- 'laws.FnExactIsPrime', WHERE WHAT IT READS IS OF BULK AT MOST 1048576: true; the input reads as it did. -/
def fnExactIsPrimeUptoRow : OpenClaim := { program := "ytemahmnchcnfeaa", sum := "8e5083c55a97a1244247a9641acf381fe0ce9ffe27375c5d5a21cf87f17af9d2", func := "loop.example/g01082/laws.FnExactIsPrime", spec := "fnExactIsPrime", unfollowed := true, recurses := true, apart := false, narrowed := true }
def FnExactIsPrimeUptoSaid : Prop := fnExactIsPrimeUptoRow.holds Try.pinned (OpenSpec.upto fnExactIsPrimeSpec)

/-- 'laws.FnExactIsLean', WHERE WHAT IT READS IS OF BULK AT MOST 1048576: true; the input reads as it did. -/
def fnExactIsLeanUptoRow : OpenClaim := { program := "ytemahmnchcnfeaa", sum := "8e5083c55a97a1244247a9641acf381fe0ce9ffe27375c5d5a21cf87f17af9d2", func := "loop.example/g01082/laws.FnExactIsLean", spec := "fnExactIsLean", unfollowed := true, recurses := true, apart := false, narrowed := true }
def FnExactIsLeanUptoSaid : Prop := fnExactIsLeanUptoRow.holds Try.pinned (OpenSpec.upto fnExactIsLeanSpec)

/-- 'laws.FnExactIsGuarding', WHERE WHAT IT READS IS OF BULK AT MOST 1048576: true; the input reads as it did. -/
def fnExactIsGuardingUptoRow : OpenClaim := { program := "ytemahmnchcnfeaa", sum := "8e5083c55a97a1244247a9641acf381fe0ce9ffe27375c5d5a21cf87f17af9d2", func := "loop.example/g01082/laws.FnExactIsGuarding", spec := "fnExactIsGuarding", unfollowed := true, recurses := true, apart := false, narrowed := true }
def FnExactIsGuardingUptoSaid : Prop := fnExactIsGuardingUptoRow.holds Try.pinned (OpenSpec.upto fnExactIsGuardingSpec)

/-- 'laws.FnExactShadowOf', WHERE WHAT IT READS IS OF BULK AT MOST 1048576: true; the input reads as it did. -/
def fnExactShadowOfUptoRow : OpenClaim := { program := "ytemahmnchcnfeaa", sum := "8e5083c55a97a1244247a9641acf381fe0ce9ffe27375c5d5a21cf87f17af9d2", func := "loop.example/g01082/laws.FnExactShadowOf", spec := "fnExactShadowOf", unfollowed := true, recurses := true, apart := false, narrowed := true }
def FnExactShadowOfUptoSaid : Prop := fnExactShadowOfUptoRow.holds Try.pinned (OpenSpec.upto fnExactShadowOfSpec)

/-- 'laws.FnExactWiresOf', WHERE WHAT IT READS IS OF BULK AT MOST 1048576: true; the input reads as it did. -/
def fnExactWiresOfUptoRow : OpenClaim := { program := "ytemahmnchcnfeaa", sum := "8e5083c55a97a1244247a9641acf381fe0ce9ffe27375c5d5a21cf87f17af9d2", func := "loop.example/g01082/laws.FnExactWiresOf", spec := "fnExactWiresOf", unfollowed := true, recurses := true, apart := false, narrowed := true }
def FnExactWiresOfUptoSaid : Prop := fnExactWiresOfUptoRow.holds Try.pinned (OpenSpec.upto fnExactWiresOfSpec)

/-- 'laws.FnExactLeanOf', WHERE WHAT IT READS IS OF BULK AT MOST 1048576: true; the input reads as it did. -/
def fnExactLeanOfUptoRow : OpenClaim := { program := "ytemahmnchcnfeaa", sum := "8e5083c55a97a1244247a9641acf381fe0ce9ffe27375c5d5a21cf87f17af9d2", func := "loop.example/g01082/laws.FnExactLeanOf", spec := "fnExactLeanOf", unfollowed := true, recurses := true, apart := false, narrowed := true }
def FnExactLeanOfUptoSaid : Prop := fnExactLeanOfUptoRow.holds Try.pinned (OpenSpec.upto fnExactLeanOfSpec)

/-- 'laws.FnExactComposeWirings', WHERE WHAT IT READS IS OF BULK AT MOST 1048576: true; the input reads as it did. -/
def fnExactComposeWiringsUptoRow : OpenClaim := { program := "ytemahmnchcnfeaa", sum := "8e5083c55a97a1244247a9641acf381fe0ce9ffe27375c5d5a21cf87f17af9d2", func := "loop.example/g01082/laws.FnExactComposeWirings", spec := "fnExactComposeWirings", unfollowed := true, recurses := true, apart := false, narrowed := true }
def FnExactComposeWiringsUptoSaid : Prop := fnExactComposeWiringsUptoRow.holds Try.pinned (OpenSpec.upto fnExactComposeWiringsSpec)

/-- 'laws.FnExactPointsOf', WHERE WHAT IT READS IS OF BULK AT MOST 1048576: true; the input reads as it did. -/
def fnExactPointsOfUptoRow : OpenClaim := { program := "ytemahmnchcnfeaa", sum := "8e5083c55a97a1244247a9641acf381fe0ce9ffe27375c5d5a21cf87f17af9d2", func := "loop.example/g01082/laws.FnExactPointsOf", spec := "fnExactPointsOf", unfollowed := true, recurses := true, apart := false, narrowed := true }
def FnExactPointsOfUptoSaid : Prop := fnExactPointsOfUptoRow.holds Try.pinned (OpenSpec.upto fnExactPointsOfSpec)

end Rows
end Go.Proofs.Ytemahmnchcnfeaa
