/-
  No cell of these rows narrows 'for every input' (looked for: loops, veiled, ifaces, maps, wideKeys, modest, calm, conditions, laid).
  DERIVED. THE GIVEN ROWS OF THIS SEAT. 5 by the template 'for every input the law returns true; each argument reads behind the call as it read before'; 0 by the template 'total and deterministic' (their statements: YtfjgapkjpmkplaaTotals.lean).
  GIVEN WITH THE SEED: the statements are not yours to turn. If you find one false, say at which input.
  Laid BY PROGRAM, IN A SANDBOX (cutbox-rows.mjs): the forced cells as the released guide's own fill.sh prints them over the translation 79acf6019f69b89b… (all of the seat's roots in one cut). By AI agents, Wed Nov 11 2026. No macro, syntax, notation, axiom, sorry.
-/
import Derived.Test.YtfjgapkjpmkplaaChecked
import GoSem.Claim
import GoSem.ClaimJoined
import GoSem.ClaimMapViews
import Derived.JoinedTies
import Derived.KernelRfl
namespace Go.Proofs.Ytfjgapkjpmkplaa
/- THE CELL 'sum', in the pinned program and in every row, IS THE sha256 OF THE DUMP (.gsa) THAT YtfjgapkjpmkplaaProg.lean LOADS. Nothing in Lean hashes anything: it is a label: what it is worth is what the hold of that sum in a sandbox is worth. -/
noncomputable def Try.pinned : Pinned := { name := "ytfjgapkjpmkplaa", sum := "79acf6019f69b89bdce223d8010f7769a1dc8ab3c024bbfb4e5f382713f9cff3", checked := Try.checked }
namespace Rows
def none {H : Type} : Left H := { results := [], args := [] }

/-- 'laws.FnExactIsRule': WHATEVER THE INPUT: true; the input reads as it did. -/
def fnExactIsRuleSpec : ChangeSpec := { name := "fnExactIsRule", fn := fun _ => fun
  | [d1, d2] => { results := [.lit (.bool true)], args := [d1, d2] }
  | _ => none }
def fnExactIsRuleRow : OpenClaim := { program := "ytfjgapkjpmkplaa", sum := "79acf6019f69b89bdce223d8010f7769a1dc8ab3c024bbfb4e5f382713f9cff3", func := "loop.example/g01082/laws.FnExactIsRule", spec := "fnExactIsRule", unfollowed := true, recurses := true, apart := false }
def FnExactIsRuleSaid : Prop := fnExactIsRuleRow.holds Try.pinned (OpenSpec.ofChange fnExactIsRuleSpec)

/-- ITS FALSE NEIGHBOUR: 'it returns false'. Refute it at one input. -/
def fnExactIsRuleWrong : ChangeSpec := { name := "fnExactIsRule", fn := fun _ => fun
  | [d1, d2] => { results := [.lit (.bool false)], args := [d1, d2] }
  | _ => none }
def FnExactIsRuleWrongFalsely : Prop := fnExactIsRuleRow.holds Try.pinned (OpenSpec.ofChange fnExactIsRuleWrong)

/-- 'laws.FnExactIsGuardedRule': WHATEVER THE INPUT: true; the input reads as it did. -/
def fnExactIsGuardedRuleSpec : ChangeSpec := { name := "fnExactIsGuardedRule", fn := fun _ => fun
  | [d1, d2] => { results := [.lit (.bool true)], args := [d1, d2] }
  | _ => none }
def fnExactIsGuardedRuleRow : OpenClaim := { program := "ytfjgapkjpmkplaa", sum := "79acf6019f69b89bdce223d8010f7769a1dc8ab3c024bbfb4e5f382713f9cff3", func := "loop.example/g01082/laws.FnExactIsGuardedRule", spec := "fnExactIsGuardedRule", unfollowed := true, recurses := true, apart := false }
def FnExactIsGuardedRuleSaid : Prop := fnExactIsGuardedRuleRow.holds Try.pinned (OpenSpec.ofChange fnExactIsGuardedRuleSpec)

/-- ITS FALSE NEIGHBOUR: 'it returns false'. Refute it at one input. -/
def fnExactIsGuardedRuleWrong : ChangeSpec := { name := "fnExactIsGuardedRule", fn := fun _ => fun
  | [d1, d2] => { results := [.lit (.bool false)], args := [d1, d2] }
  | _ => none }
def FnExactIsGuardedRuleWrongFalsely : Prop := fnExactIsGuardedRuleRow.holds Try.pinned (OpenSpec.ofChange fnExactIsGuardedRuleWrong)

/-- 'laws.FnExactLinkParts': WHATEVER THE INPUT: true; the input reads as it did. -/
def fnExactLinkPartsSpec : ChangeSpec := { name := "fnExactLinkParts", fn := fun _ => fun
  | [d1, d2] => { results := [.lit (.bool true)], args := [d1, d2] }
  | _ => none }
def fnExactLinkPartsRow : OpenClaim := { program := "ytfjgapkjpmkplaa", sum := "79acf6019f69b89bdce223d8010f7769a1dc8ab3c024bbfb4e5f382713f9cff3", func := "loop.example/g01082/laws.FnExactLinkParts", spec := "fnExactLinkParts", unfollowed := true, recurses := true, apart := false }
def FnExactLinkPartsSaid : Prop := fnExactLinkPartsRow.holds Try.pinned (OpenSpec.ofChange fnExactLinkPartsSpec)

/-- ITS FALSE NEIGHBOUR: 'it returns false'. Refute it at one input. -/
def fnExactLinkPartsWrong : ChangeSpec := { name := "fnExactLinkParts", fn := fun _ => fun
  | [d1, d2] => { results := [.lit (.bool false)], args := [d1, d2] }
  | _ => none }
def FnExactLinkPartsWrongFalsely : Prop := fnExactLinkPartsRow.holds Try.pinned (OpenSpec.ofChange fnExactLinkPartsWrong)

/-- 'laws.FnExactDiscreteOf': WHATEVER THE INPUT: true; the input reads as it did. -/
def fnExactDiscreteOfSpec : ChangeSpec := { name := "fnExactDiscreteOf", fn := fun _ => fun
  | [d1, d2] => { results := [.lit (.bool true)], args := [d1, d2] }
  | _ => none }
def fnExactDiscreteOfRow : OpenClaim := { program := "ytfjgapkjpmkplaa", sum := "79acf6019f69b89bdce223d8010f7769a1dc8ab3c024bbfb4e5f382713f9cff3", func := "loop.example/g01082/laws.FnExactDiscreteOf", spec := "fnExactDiscreteOf", unfollowed := true, recurses := true, apart := false }
def FnExactDiscreteOfSaid : Prop := fnExactDiscreteOfRow.holds Try.pinned (OpenSpec.ofChange fnExactDiscreteOfSpec)

/-- ITS FALSE NEIGHBOUR: 'it returns false'. Refute it at one input. -/
def fnExactDiscreteOfWrong : ChangeSpec := { name := "fnExactDiscreteOf", fn := fun _ => fun
  | [d1, d2] => { results := [.lit (.bool false)], args := [d1, d2] }
  | _ => none }
def FnExactDiscreteOfWrongFalsely : Prop := fnExactDiscreteOfRow.holds Try.pinned (OpenSpec.ofChange fnExactDiscreteOfWrong)

/-- 'laws.FnExactMergeRoots': WHATEVER THE INPUT: true; the input reads as it did. -/
def fnExactMergeRootsSpec : ChangeSpec := { name := "fnExactMergeRoots", fn := fun _ => fun
  | [d1, d2] => { results := [.lit (.bool true)], args := [d1, d2] }
  | _ => none }
def fnExactMergeRootsRow : OpenClaim := { program := "ytfjgapkjpmkplaa", sum := "79acf6019f69b89bdce223d8010f7769a1dc8ab3c024bbfb4e5f382713f9cff3", func := "loop.example/g01082/laws.FnExactMergeRoots", spec := "fnExactMergeRoots", unfollowed := true, recurses := true, apart := false }
def FnExactMergeRootsSaid : Prop := fnExactMergeRootsRow.holds Try.pinned (OpenSpec.ofChange fnExactMergeRootsSpec)

/-- ITS FALSE NEIGHBOUR: 'it returns false'. Refute it at one input. -/
def fnExactMergeRootsWrong : ChangeSpec := { name := "fnExactMergeRoots", fn := fun _ => fun
  | [d1, d2] => { results := [.lit (.bool false)], args := [d1, d2] }
  | _ => none }
def FnExactMergeRootsWrongFalsely : Prop := fnExactMergeRootsRow.holds Try.pinned (OpenSpec.ofChange fnExactMergeRootsWrong)

/- THE SECOND FORM. 'bulk': how many values and letters a reading holds, each counted each time it is reached (what is shared counts as often as it is met; a slice's spare places count too). A statement '..UptoSaid' is the law's where the arguments, and the package variables that the reading takes, are together of bulk at most 1048576: NARROWER than '..Said'. Prove '..Said' where nothing that the law and all that it calls make is longer than what came in: it says more and counts as full. Else prove '..UptoSaid'. A law counts once. -/
mutual
def uptoBulk {H : Type} : DataW H → Nat
  | .lit (.string bytes) => bytes.length + 1
  | .lit _ => 1
  | .nil => 1
  | .ptr d => uptoBulk d + 1
  | .slice elems spare => uptoBulkAll elems + uptoBulkAll spare + 1
  | .agg parts => uptoBulkAll parts + 1
  | .iface _ d => uptoBulk d + 1
  | .map entries => uptoBulkEntries entries + 1
  | .held _ => 1
def uptoBulkAll {H : Type} : List (DataW H) → Nat
  | [] => 0
  | d :: r => uptoBulk d + uptoBulkAll r
def uptoBulkEntries {H : Type} : List (Lit × DataW H) → Nat
  | [] => 0
  | x :: r => uptoBulkEntry x + uptoBulkEntries r
def uptoBulkEntry {H : Type} : Lit × DataW H → Nat
  | (.string bytes, d) => bytes.length + uptoBulk d + 1
  | (_, d) => uptoBulk d + 1
 end
def uptoSmall : (H : Type) → List (DataW H) → Bool := fun _ ds => decide (uptoBulkAll ds ≤ 1048576)
def OpenSpec.upto (s : _root_.Go.ChangeSpec) : _root_.Go.OpenSpec := { _root_.Go.OpenSpec.ofChange s with cond := some uptoSmall }

/-- 'laws.FnExactIsRule', WHERE WHAT IT READS IS OF BULK AT MOST 1048576: true; the input reads as it did. -/
def fnExactIsRuleUptoRow : OpenClaim := { program := "ytfjgapkjpmkplaa", sum := "79acf6019f69b89bdce223d8010f7769a1dc8ab3c024bbfb4e5f382713f9cff3", func := "loop.example/g01082/laws.FnExactIsRule", spec := "fnExactIsRule", unfollowed := true, recurses := true, apart := false, narrowed := true }
def FnExactIsRuleUptoSaid : Prop := fnExactIsRuleUptoRow.holds Try.pinned (OpenSpec.upto fnExactIsRuleSpec)

/-- 'laws.FnExactIsGuardedRule', WHERE WHAT IT READS IS OF BULK AT MOST 1048576: true; the input reads as it did. -/
def fnExactIsGuardedRuleUptoRow : OpenClaim := { program := "ytfjgapkjpmkplaa", sum := "79acf6019f69b89bdce223d8010f7769a1dc8ab3c024bbfb4e5f382713f9cff3", func := "loop.example/g01082/laws.FnExactIsGuardedRule", spec := "fnExactIsGuardedRule", unfollowed := true, recurses := true, apart := false, narrowed := true }
def FnExactIsGuardedRuleUptoSaid : Prop := fnExactIsGuardedRuleUptoRow.holds Try.pinned (OpenSpec.upto fnExactIsGuardedRuleSpec)

/-- 'laws.FnExactLinkParts', WHERE WHAT IT READS IS OF BULK AT MOST 1048576: true; the input reads as it did. -/
def fnExactLinkPartsUptoRow : OpenClaim := { program := "ytfjgapkjpmkplaa", sum := "79acf6019f69b89bdce223d8010f7769a1dc8ab3c024bbfb4e5f382713f9cff3", func := "loop.example/g01082/laws.FnExactLinkParts", spec := "fnExactLinkParts", unfollowed := true, recurses := true, apart := false, narrowed := true }
def FnExactLinkPartsUptoSaid : Prop := fnExactLinkPartsUptoRow.holds Try.pinned (OpenSpec.upto fnExactLinkPartsSpec)

/-- 'laws.FnExactDiscreteOf', WHERE WHAT IT READS IS OF BULK AT MOST 1048576: true; the input reads as it did. -/
def fnExactDiscreteOfUptoRow : OpenClaim := { program := "ytfjgapkjpmkplaa", sum := "79acf6019f69b89bdce223d8010f7769a1dc8ab3c024bbfb4e5f382713f9cff3", func := "loop.example/g01082/laws.FnExactDiscreteOf", spec := "fnExactDiscreteOf", unfollowed := true, recurses := true, apart := false, narrowed := true }
def FnExactDiscreteOfUptoSaid : Prop := fnExactDiscreteOfUptoRow.holds Try.pinned (OpenSpec.upto fnExactDiscreteOfSpec)

/-- 'laws.FnExactMergeRoots', WHERE WHAT IT READS IS OF BULK AT MOST 1048576: true; the input reads as it did. -/
def fnExactMergeRootsUptoRow : OpenClaim := { program := "ytfjgapkjpmkplaa", sum := "79acf6019f69b89bdce223d8010f7769a1dc8ab3c024bbfb4e5f382713f9cff3", func := "loop.example/g01082/laws.FnExactMergeRoots", spec := "fnExactMergeRoots", unfollowed := true, recurses := true, apart := false, narrowed := true }
def FnExactMergeRootsUptoSaid : Prop := fnExactMergeRootsUptoRow.holds Try.pinned (OpenSpec.upto fnExactMergeRootsSpec)

end Rows
end Go.Proofs.Ytfjgapkjpmkplaa
