/-
  No cell of these rows narrows 'for every input' (looked for: loops, veiled, ifaces, maps, wideKeys, modest, calm, conditions, laid).
  DERIVED. THE GIVEN ROWS OF THIS SEAT. 13 by the template 'for every input the law returns true; each argument reads behind the call as it read before'; 0 by the template 'total and deterministic' (their statements: YtdejbacfgcahlaaTotals.lean).
  GIVEN WITH THE SEED: the statements are not yours to turn. If you find one false, say at which input.
  Laid BY PROGRAM, IN A SANDBOX (cutbox-rows.mjs): the forced cells as the released guide's own fill.sh prints them over the translation f668aeef44913f8d… (all of the seat's roots in one cut). By AI agents, Wed Nov 11 2026. No macro, syntax, notation, axiom, sorry.
-/
import Derived.Test.YtdejbacfgcahlaaChecked
import GoSem.Claim
import GoSem.ClaimJoined
import GoSem.ClaimMapViews
import Derived.JoinedTies
import Derived.KernelRfl
namespace Go.Proofs.Ytdejbacfgcahlaa
/- THE CELL 'sum', in the pinned program and in every row, IS THE sha256 OF THE DUMP (.gsa) THAT YtdejbacfgcahlaaProg.lean LOADS. Nothing in Lean hashes anything: it is a label: what it is worth is what the hold of that sum in a sandbox is worth. -/
noncomputable def Try.pinned : Pinned := { name := "ytdejbacfgcahlaa", sum := "f668aeef44913f8df25920f0ee92fb412cc09896b80d61120e66f9eb3d2f0bd4", checked := Try.checked }
namespace Rows
def none {H : Type} : Left H := { results := [], args := [] }

/-- 'laws.FnExactIsSignature': WHATEVER THE INPUT: true; the input reads as it did. -/
def fnExactIsSignatureSpec : ChangeSpec := { name := "fnExactIsSignature", fn := fun _ => fun
  | [d] => { results := [.lit (.bool true)], args := [d] }
  | _ => none }
def fnExactIsSignatureRow : OpenClaim := { program := "ytdejbacfgcahlaa", sum := "f668aeef44913f8df25920f0ee92fb412cc09896b80d61120e66f9eb3d2f0bd4", func := "loop.example/g01082/laws.FnExactIsSignature", spec := "fnExactIsSignature", apart := false }
def FnExactIsSignatureSaid : Prop := fnExactIsSignatureRow.holds Try.pinned (OpenSpec.ofChange fnExactIsSignatureSpec)

/-- ITS FALSE NEIGHBOUR: 'it returns false'. Refute it at one input. -/
def fnExactIsSignatureWrong : ChangeSpec := { name := "fnExactIsSignature", fn := fun _ => fun
  | [d] => { results := [.lit (.bool false)], args := [d] }
  | _ => none }
def FnExactIsSignatureWrongFalsely : Prop := fnExactIsSignatureRow.holds Try.pinned (OpenSpec.ofChange fnExactIsSignatureWrong)

/-- 'laws.FnExactIsBigraph': WHATEVER THE INPUT: true; the input reads as it did. -/
def fnExactIsBigraphSpec : ChangeSpec := { name := "fnExactIsBigraph", fn := fun _ => fun
  | [d1, d2] => { results := [.lit (.bool true)], args := [d1, d2] }
  | _ => none }
def fnExactIsBigraphRow : OpenClaim := { program := "ytdejbacfgcahlaa", sum := "f668aeef44913f8df25920f0ee92fb412cc09896b80d61120e66f9eb3d2f0bd4", func := "loop.example/g01082/laws.FnExactIsBigraph", spec := "fnExactIsBigraph", unfollowed := true, recurses := true, apart := false }
def FnExactIsBigraphSaid : Prop := fnExactIsBigraphRow.holds Try.pinned (OpenSpec.ofChange fnExactIsBigraphSpec)

/-- ITS FALSE NEIGHBOUR: 'it returns false'. Refute it at one input. -/
def fnExactIsBigraphWrong : ChangeSpec := { name := "fnExactIsBigraph", fn := fun _ => fun
  | [d1, d2] => { results := [.lit (.bool false)], args := [d1, d2] }
  | _ => none }
def FnExactIsBigraphWrongFalsely : Prop := fnExactIsBigraphRow.holds Try.pinned (OpenSpec.ofChange fnExactIsBigraphWrong)

/-- 'laws.FnExactIsAgent': WHATEVER THE INPUT: true; the input reads as it did. -/
def fnExactIsAgentSpec : ChangeSpec := { name := "fnExactIsAgent", fn := fun _ => fun
  | [d1, d2] => { results := [.lit (.bool true)], args := [d1, d2] }
  | _ => none }
def fnExactIsAgentRow : OpenClaim := { program := "ytdejbacfgcahlaa", sum := "f668aeef44913f8df25920f0ee92fb412cc09896b80d61120e66f9eb3d2f0bd4", func := "loop.example/g01082/laws.FnExactIsAgent", spec := "fnExactIsAgent", unfollowed := true, recurses := true, apart := false }
def FnExactIsAgentSaid : Prop := fnExactIsAgentRow.holds Try.pinned (OpenSpec.ofChange fnExactIsAgentSpec)

/-- ITS FALSE NEIGHBOUR: 'it returns false'. Refute it at one input. -/
def fnExactIsAgentWrong : ChangeSpec := { name := "fnExactIsAgent", fn := fun _ => fun
  | [d1, d2] => { results := [.lit (.bool false)], args := [d1, d2] }
  | _ => none }
def FnExactIsAgentWrongFalsely : Prop := fnExactIsAgentRow.holds Try.pinned (OpenSpec.ofChange fnExactIsAgentWrong)

/-- 'laws.FnExactInnerNames': WHATEVER THE INPUT: true; the input reads as it did. -/
def fnExactInnerNamesSpec : ChangeSpec := { name := "fnExactInnerNames", fn := fun _ => fun
  | [d1, d2] => { results := [.lit (.bool true)], args := [d1, d2] }
  | _ => none }
def fnExactInnerNamesRow : OpenClaim := { program := "ytdejbacfgcahlaa", sum := "f668aeef44913f8df25920f0ee92fb412cc09896b80d61120e66f9eb3d2f0bd4", func := "loop.example/g01082/laws.FnExactInnerNames", spec := "fnExactInnerNames", unfollowed := true, recurses := true, apart := false }
def FnExactInnerNamesSaid : Prop := fnExactInnerNamesRow.holds Try.pinned (OpenSpec.ofChange fnExactInnerNamesSpec)

/-- ITS FALSE NEIGHBOUR: 'it returns false'. Refute it at one input. -/
def fnExactInnerNamesWrong : ChangeSpec := { name := "fnExactInnerNames", fn := fun _ => fun
  | [d1, d2] => { results := [.lit (.bool false)], args := [d1, d2] }
  | _ => none }
def FnExactInnerNamesWrongFalsely : Prop := fnExactInnerNamesRow.holds Try.pinned (OpenSpec.ofChange fnExactInnerNamesWrong)

/-- 'laws.FnExactChildrenOf': WHATEVER THE INPUT: true; the input reads as it did. -/
def fnExactChildrenOfSpec : ChangeSpec := { name := "fnExactChildrenOf", fn := fun _ => fun
  | [d1, d2, d3] => { results := [.lit (.bool true)], args := [d1, d2, d3] }
  | _ => none }
def fnExactChildrenOfRow : OpenClaim := { program := "ytdejbacfgcahlaa", sum := "f668aeef44913f8df25920f0ee92fb412cc09896b80d61120e66f9eb3d2f0bd4", func := "loop.example/g01082/laws.FnExactChildrenOf", spec := "fnExactChildrenOf", unfollowed := true, recurses := true, apart := false }
def FnExactChildrenOfSaid : Prop := fnExactChildrenOfRow.holds Try.pinned (OpenSpec.ofChange fnExactChildrenOfSpec)

/-- ITS FALSE NEIGHBOUR: 'it returns false'. Refute it at one input. -/
def fnExactChildrenOfWrong : ChangeSpec := { name := "fnExactChildrenOf", fn := fun _ => fun
  | [d1, d2, d3] => { results := [.lit (.bool false)], args := [d1, d2, d3] }
  | _ => none }
def FnExactChildrenOfWrongFalsely : Prop := fnExactChildrenOfRow.holds Try.pinned (OpenSpec.ofChange fnExactChildrenOfWrong)

/-- 'laws.FnExactPointsOf': WHATEVER THE INPUT: true; the input reads as it did. -/
def fnExactPointsOfSpec : ChangeSpec := { name := "fnExactPointsOf", fn := fun _ => fun
  | [d1, d2, d3] => { results := [.lit (.bool true)], args := [d1, d2, d3] }
  | _ => none }
def fnExactPointsOfRow : OpenClaim := { program := "ytdejbacfgcahlaa", sum := "f668aeef44913f8df25920f0ee92fb412cc09896b80d61120e66f9eb3d2f0bd4", func := "loop.example/g01082/laws.FnExactPointsOf", spec := "fnExactPointsOf", unfollowed := true, recurses := true, apart := false }
def FnExactPointsOfSaid : Prop := fnExactPointsOfRow.holds Try.pinned (OpenSpec.ofChange fnExactPointsOfSpec)

/-- ITS FALSE NEIGHBOUR: 'it returns false'. Refute it at one input. -/
def fnExactPointsOfWrong : ChangeSpec := { name := "fnExactPointsOf", fn := fun _ => fun
  | [d1, d2, d3] => { results := [.lit (.bool false)], args := [d1, d2, d3] }
  | _ => none }
def FnExactPointsOfWrongFalsely : Prop := fnExactPointsOfRow.holds Try.pinned (OpenSpec.ofChange fnExactPointsOfWrong)

/-- 'laws.FnExactAncestorsOf': WHATEVER THE INPUT: true; the input reads as it did. -/
def fnExactAncestorsOfSpec : ChangeSpec := { name := "fnExactAncestorsOf", fn := fun _ => fun
  | [d1, d2, d3] => { results := [.lit (.bool true)], args := [d1, d2, d3] }
  | _ => none }
def fnExactAncestorsOfRow : OpenClaim := { program := "ytdejbacfgcahlaa", sum := "f668aeef44913f8df25920f0ee92fb412cc09896b80d61120e66f9eb3d2f0bd4", func := "loop.example/g01082/laws.FnExactAncestorsOf", spec := "fnExactAncestorsOf", unfollowed := true, recurses := true, apart := false }
def FnExactAncestorsOfSaid : Prop := fnExactAncestorsOfRow.holds Try.pinned (OpenSpec.ofChange fnExactAncestorsOfSpec)

/-- ITS FALSE NEIGHBOUR: 'it returns false'. Refute it at one input. -/
def fnExactAncestorsOfWrong : ChangeSpec := { name := "fnExactAncestorsOf", fn := fun _ => fun
  | [d1, d2, d3] => { results := [.lit (.bool false)], args := [d1, d2, d3] }
  | _ => none }
def FnExactAncestorsOfWrongFalsely : Prop := fnExactAncestorsOfRow.holds Try.pinned (OpenSpec.ofChange fnExactAncestorsOfWrong)

/-- 'laws.FnExactCommonPlace': WHATEVER THE INPUT: true; the input reads as it did. -/
def fnExactCommonPlaceSpec : ChangeSpec := { name := "fnExactCommonPlace", fn := fun _ => fun
  | [d1, d2, d3, d4] => { results := [.lit (.bool true)], args := [d1, d2, d3, d4] }
  | _ => none }
def fnExactCommonPlaceRow : OpenClaim := { program := "ytdejbacfgcahlaa", sum := "f668aeef44913f8df25920f0ee92fb412cc09896b80d61120e66f9eb3d2f0bd4", func := "loop.example/g01082/laws.FnExactCommonPlace", spec := "fnExactCommonPlace", unfollowed := true, recurses := true, apart := false }
def FnExactCommonPlaceSaid : Prop := fnExactCommonPlaceRow.holds Try.pinned (OpenSpec.ofChange fnExactCommonPlaceSpec)

/-- ITS FALSE NEIGHBOUR: 'it returns false'. Refute it at one input. -/
def fnExactCommonPlaceWrong : ChangeSpec := { name := "fnExactCommonPlace", fn := fun _ => fun
  | [d1, d2, d3, d4] => { results := [.lit (.bool false)], args := [d1, d2, d3, d4] }
  | _ => none }
def FnExactCommonPlaceWrongFalsely : Prop := fnExactCommonPlaceRow.holds Try.pinned (OpenSpec.ofChange fnExactCommonPlaceWrong)

/-- 'laws.FnExactHeightOf': WHATEVER THE INPUT: true; the input reads as it did. -/
def fnExactHeightOfSpec : ChangeSpec := { name := "fnExactHeightOf", fn := fun _ => fun
  | [d1, d2] => { results := [.lit (.bool true)], args := [d1, d2] }
  | _ => none }
def fnExactHeightOfRow : OpenClaim := { program := "ytdejbacfgcahlaa", sum := "f668aeef44913f8df25920f0ee92fb412cc09896b80d61120e66f9eb3d2f0bd4", func := "loop.example/g01082/laws.FnExactHeightOf", spec := "fnExactHeightOf", unfollowed := true, recurses := true, apart := false }
def FnExactHeightOfSaid : Prop := fnExactHeightOfRow.holds Try.pinned (OpenSpec.ofChange fnExactHeightOfSpec)

/-- ITS FALSE NEIGHBOUR: 'it returns false'. Refute it at one input. -/
def fnExactHeightOfWrong : ChangeSpec := { name := "fnExactHeightOf", fn := fun _ => fun
  | [d1, d2] => { results := [.lit (.bool false)], args := [d1, d2] }
  | _ => none }
def FnExactHeightOfWrongFalsely : Prop := fnExactHeightOfRow.holds Try.pinned (OpenSpec.ofChange fnExactHeightOfWrong)

/-- 'laws.FnExactCountControls': WHATEVER THE INPUT: true; the input reads as it did. -/
def fnExactCountControlsSpec : ChangeSpec := { name := "fnExactCountControls", fn := fun _ => fun
  | [d1, d2] => { results := [.lit (.bool true)], args := [d1, d2] }
  | _ => none }
def fnExactCountControlsRow : OpenClaim := { program := "ytdejbacfgcahlaa", sum := "f668aeef44913f8df25920f0ee92fb412cc09896b80d61120e66f9eb3d2f0bd4", func := "loop.example/g01082/laws.FnExactCountControls", spec := "fnExactCountControls", unfollowed := true, recurses := true, apart := false }
def FnExactCountControlsSaid : Prop := fnExactCountControlsRow.holds Try.pinned (OpenSpec.ofChange fnExactCountControlsSpec)

/-- ITS FALSE NEIGHBOUR: 'it returns false'. Refute it at one input. -/
def fnExactCountControlsWrong : ChangeSpec := { name := "fnExactCountControls", fn := fun _ => fun
  | [d1, d2] => { results := [.lit (.bool false)], args := [d1, d2] }
  | _ => none }
def FnExactCountControlsWrongFalsely : Prop := fnExactCountControlsRow.holds Try.pinned (OpenSpec.ofChange fnExactCountControlsWrong)

/-- 'laws.FnExactIdleLinks': WHATEVER THE INPUT: true; the input reads as it did. -/
def fnExactIdleLinksSpec : ChangeSpec := { name := "fnExactIdleLinks", fn := fun _ => fun
  | [d1, d2] => { results := [.lit (.bool true)], args := [d1, d2] }
  | _ => none }
def fnExactIdleLinksRow : OpenClaim := { program := "ytdejbacfgcahlaa", sum := "f668aeef44913f8df25920f0ee92fb412cc09896b80d61120e66f9eb3d2f0bd4", func := "loop.example/g01082/laws.FnExactIdleLinks", spec := "fnExactIdleLinks", unfollowed := true, recurses := true, apart := false }
def FnExactIdleLinksSaid : Prop := fnExactIdleLinksRow.holds Try.pinned (OpenSpec.ofChange fnExactIdleLinksSpec)

/-- ITS FALSE NEIGHBOUR: 'it returns false'. Refute it at one input. -/
def fnExactIdleLinksWrong : ChangeSpec := { name := "fnExactIdleLinks", fn := fun _ => fun
  | [d1, d2] => { results := [.lit (.bool false)], args := [d1, d2] }
  | _ => none }
def FnExactIdleLinksWrongFalsely : Prop := fnExactIdleLinksRow.holds Try.pinned (OpenSpec.ofChange fnExactIdleLinksWrong)

/-- 'laws.FnExactLinkParts': WHATEVER THE INPUT: true; the input reads as it did. -/
def fnExactLinkPartsSpec : ChangeSpec := { name := "fnExactLinkParts", fn := fun _ => fun
  | [d1, d2] => { results := [.lit (.bool true)], args := [d1, d2] }
  | _ => none }
def fnExactLinkPartsRow : OpenClaim := { program := "ytdejbacfgcahlaa", sum := "f668aeef44913f8df25920f0ee92fb412cc09896b80d61120e66f9eb3d2f0bd4", func := "loop.example/g01082/laws.FnExactLinkParts", spec := "fnExactLinkParts", unfollowed := true, recurses := true, apart := false }
def FnExactLinkPartsSaid : Prop := fnExactLinkPartsRow.holds Try.pinned (OpenSpec.ofChange fnExactLinkPartsSpec)

/-- ITS FALSE NEIGHBOUR: 'it returns false'. Refute it at one input. -/
def fnExactLinkPartsWrong : ChangeSpec := { name := "fnExactLinkParts", fn := fun _ => fun
  | [d1, d2] => { results := [.lit (.bool false)], args := [d1, d2] }
  | _ => none }
def FnExactLinkPartsWrongFalsely : Prop := fnExactLinkPartsRow.holds Try.pinned (OpenSpec.ofChange fnExactLinkPartsWrong)

/-- 'laws.FnExactRenumberNodes': WHATEVER THE INPUT: true; the input reads as it did. -/
def fnExactRenumberNodesSpec : ChangeSpec := { name := "fnExactRenumberNodes", fn := fun _ => fun
  | [d1, d2, d3, d4] => { results := [.lit (.bool true)], args := [d1, d2, d3, d4] }
  | _ => none }
def fnExactRenumberNodesRow : OpenClaim := { program := "ytdejbacfgcahlaa", sum := "f668aeef44913f8df25920f0ee92fb412cc09896b80d61120e66f9eb3d2f0bd4", func := "loop.example/g01082/laws.FnExactRenumberNodes", spec := "fnExactRenumberNodes", unfollowed := true, recurses := true, apart := false }
def FnExactRenumberNodesSaid : Prop := fnExactRenumberNodesRow.holds Try.pinned (OpenSpec.ofChange fnExactRenumberNodesSpec)

/-- ITS FALSE NEIGHBOUR: 'it returns false'. Refute it at one input. -/
def fnExactRenumberNodesWrong : ChangeSpec := { name := "fnExactRenumberNodes", fn := fun _ => fun
  | [d1, d2, d3, d4] => { results := [.lit (.bool false)], args := [d1, d2, d3, d4] }
  | _ => none }
def FnExactRenumberNodesWrongFalsely : Prop := fnExactRenumberNodesRow.holds Try.pinned (OpenSpec.ofChange fnExactRenumberNodesWrong)

/- THE SECOND FORM. 'bulk': how many values and letters a reading holds, each counted each time it is reached (what is shared counts as often as it is met; a slice's spare places count too). A statement '..UptoSaid' is the law's where the arguments, and the package variables that the reading takes, are together of bulk at most 1048576: NARROWER than '..Said'. Prove '..Said' where nothing that the law and all that it calls make is longer than what came in: it says more and counts as full. Else prove '..UptoSaid'. A law counts once. -/
mutual
def uptoBulk {H : Type} : DataW H → Nat
  | .lit (.string bytes) => bytes.length + 1
  | .lit _ => 1
  | .nil => 1
  | .ptr d => uptoBulk d + 1
  | .slice elems spare => uptoBulkAll elems + uptoBulkAll spare + 1
  | .agg parts => uptoBulkAll parts + 1
  | .iface _ d => uptoBulk d + 1
  | .map entries => uptoBulkEntries entries + 1
  | .held _ => 1
def uptoBulkAll {H : Type} : List (DataW H) → Nat
  | [] => 0
  | d :: r => uptoBulk d + uptoBulkAll r
def uptoBulkEntries {H : Type} : List (Lit × DataW H) → Nat
  | [] => 0
  | x :: r => uptoBulkEntry x + uptoBulkEntries r
def uptoBulkEntry {H : Type} : Lit × DataW H → Nat
  | (.string bytes, d) => bytes.length + uptoBulk d + 1
  | (_, d) => uptoBulk d + 1
 end
def uptoSmall : (H : Type) → List (DataW H) → Bool := fun _ ds => decide (uptoBulkAll ds ≤ 1048576)
def OpenSpec.upto (s : _root_.Go.ChangeSpec) : _root_.Go.OpenSpec := { _root_.Go.OpenSpec.ofChange s with cond := some uptoSmall }

/-- 'laws.FnExactIsSignature', WHERE WHAT IT READS IS OF BULK AT MOST 1048576: true; the input reads as it did. -/
def fnExactIsSignatureUptoRow : OpenClaim := { program := "ytdejbacfgcahlaa", sum := "f668aeef44913f8df25920f0ee92fb412cc09896b80d61120e66f9eb3d2f0bd4", func := "loop.example/g01082/laws.FnExactIsSignature", spec := "fnExactIsSignature", apart := false, narrowed := true }
def FnExactIsSignatureUptoSaid : Prop := fnExactIsSignatureUptoRow.holds Try.pinned (OpenSpec.upto fnExactIsSignatureSpec)

/-- 'laws.FnExactIsBigraph', WHERE WHAT IT READS IS OF BULK AT MOST 1048576: true; the input reads as it did. -/
def fnExactIsBigraphUptoRow : OpenClaim := { program := "ytdejbacfgcahlaa", sum := "f668aeef44913f8df25920f0ee92fb412cc09896b80d61120e66f9eb3d2f0bd4", func := "loop.example/g01082/laws.FnExactIsBigraph", spec := "fnExactIsBigraph", unfollowed := true, recurses := true, apart := false, narrowed := true }
def FnExactIsBigraphUptoSaid : Prop := fnExactIsBigraphUptoRow.holds Try.pinned (OpenSpec.upto fnExactIsBigraphSpec)

/-- 'laws.FnExactIsAgent', WHERE WHAT IT READS IS OF BULK AT MOST 1048576: true; the input reads as it did. -/
def fnExactIsAgentUptoRow : OpenClaim := { program := "ytdejbacfgcahlaa", sum := "f668aeef44913f8df25920f0ee92fb412cc09896b80d61120e66f9eb3d2f0bd4", func := "loop.example/g01082/laws.FnExactIsAgent", spec := "fnExactIsAgent", unfollowed := true, recurses := true, apart := false, narrowed := true }
def FnExactIsAgentUptoSaid : Prop := fnExactIsAgentUptoRow.holds Try.pinned (OpenSpec.upto fnExactIsAgentSpec)

/-- 'laws.FnExactInnerNames', WHERE WHAT IT READS IS OF BULK AT MOST 1048576: true; the input reads as it did. -/
def fnExactInnerNamesUptoRow : OpenClaim := { program := "ytdejbacfgcahlaa", sum := "f668aeef44913f8df25920f0ee92fb412cc09896b80d61120e66f9eb3d2f0bd4", func := "loop.example/g01082/laws.FnExactInnerNames", spec := "fnExactInnerNames", unfollowed := true, recurses := true, apart := false, narrowed := true }
def FnExactInnerNamesUptoSaid : Prop := fnExactInnerNamesUptoRow.holds Try.pinned (OpenSpec.upto fnExactInnerNamesSpec)

/-- 'laws.FnExactChildrenOf', WHERE WHAT IT READS IS OF BULK AT MOST 1048576: true; the input reads as it did. -/
def fnExactChildrenOfUptoRow : OpenClaim := { program := "ytdejbacfgcahlaa", sum := "f668aeef44913f8df25920f0ee92fb412cc09896b80d61120e66f9eb3d2f0bd4", func := "loop.example/g01082/laws.FnExactChildrenOf", spec := "fnExactChildrenOf", unfollowed := true, recurses := true, apart := false, narrowed := true }
def FnExactChildrenOfUptoSaid : Prop := fnExactChildrenOfUptoRow.holds Try.pinned (OpenSpec.upto fnExactChildrenOfSpec)

/-- 'laws.FnExactPointsOf', WHERE WHAT IT READS IS OF BULK AT MOST 1048576: true; the input reads as it did. -/
def fnExactPointsOfUptoRow : OpenClaim := { program := "ytdejbacfgcahlaa", sum := "f668aeef44913f8df25920f0ee92fb412cc09896b80d61120e66f9eb3d2f0bd4", func := "loop.example/g01082/laws.FnExactPointsOf", spec := "fnExactPointsOf", unfollowed := true, recurses := true, apart := false, narrowed := true }
def FnExactPointsOfUptoSaid : Prop := fnExactPointsOfUptoRow.holds Try.pinned (OpenSpec.upto fnExactPointsOfSpec)

/-- 'laws.FnExactAncestorsOf', WHERE WHAT IT READS IS OF BULK AT MOST 1048576: true; the input reads as it did. -/
def fnExactAncestorsOfUptoRow : OpenClaim := { program := "ytdejbacfgcahlaa", sum := "f668aeef44913f8df25920f0ee92fb412cc09896b80d61120e66f9eb3d2f0bd4", func := "loop.example/g01082/laws.FnExactAncestorsOf", spec := "fnExactAncestorsOf", unfollowed := true, recurses := true, apart := false, narrowed := true }
def FnExactAncestorsOfUptoSaid : Prop := fnExactAncestorsOfUptoRow.holds Try.pinned (OpenSpec.upto fnExactAncestorsOfSpec)

/-- 'laws.FnExactCommonPlace', WHERE WHAT IT READS IS OF BULK AT MOST 1048576: true; the input reads as it did. -/
def fnExactCommonPlaceUptoRow : OpenClaim := { program := "ytdejbacfgcahlaa", sum := "f668aeef44913f8df25920f0ee92fb412cc09896b80d61120e66f9eb3d2f0bd4", func := "loop.example/g01082/laws.FnExactCommonPlace", spec := "fnExactCommonPlace", unfollowed := true, recurses := true, apart := false, narrowed := true }
def FnExactCommonPlaceUptoSaid : Prop := fnExactCommonPlaceUptoRow.holds Try.pinned (OpenSpec.upto fnExactCommonPlaceSpec)

/-- 'laws.FnExactHeightOf', WHERE WHAT IT READS IS OF BULK AT MOST 1048576: true; the input reads as it did. -/
def fnExactHeightOfUptoRow : OpenClaim := { program := "ytdejbacfgcahlaa", sum := "f668aeef44913f8df25920f0ee92fb412cc09896b80d61120e66f9eb3d2f0bd4", func := "loop.example/g01082/laws.FnExactHeightOf", spec := "fnExactHeightOf", unfollowed := true, recurses := true, apart := false, narrowed := true }
def FnExactHeightOfUptoSaid : Prop := fnExactHeightOfUptoRow.holds Try.pinned (OpenSpec.upto fnExactHeightOfSpec)

/-- 'laws.FnExactCountControls', WHERE WHAT IT READS IS OF BULK AT MOST 1048576: true; the input reads as it did. -/
def fnExactCountControlsUptoRow : OpenClaim := { program := "ytdejbacfgcahlaa", sum := "f668aeef44913f8df25920f0ee92fb412cc09896b80d61120e66f9eb3d2f0bd4", func := "loop.example/g01082/laws.FnExactCountControls", spec := "fnExactCountControls", unfollowed := true, recurses := true, apart := false, narrowed := true }
def FnExactCountControlsUptoSaid : Prop := fnExactCountControlsUptoRow.holds Try.pinned (OpenSpec.upto fnExactCountControlsSpec)

/-- 'laws.FnExactIdleLinks', WHERE WHAT IT READS IS OF BULK AT MOST 1048576: true; the input reads as it did. -/
def fnExactIdleLinksUptoRow : OpenClaim := { program := "ytdejbacfgcahlaa", sum := "f668aeef44913f8df25920f0ee92fb412cc09896b80d61120e66f9eb3d2f0bd4", func := "loop.example/g01082/laws.FnExactIdleLinks", spec := "fnExactIdleLinks", unfollowed := true, recurses := true, apart := false, narrowed := true }
def FnExactIdleLinksUptoSaid : Prop := fnExactIdleLinksUptoRow.holds Try.pinned (OpenSpec.upto fnExactIdleLinksSpec)

/-- 'laws.FnExactLinkParts', WHERE WHAT IT READS IS OF BULK AT MOST 1048576: true; the input reads as it did. -/
def fnExactLinkPartsUptoRow : OpenClaim := { program := "ytdejbacfgcahlaa", sum := "f668aeef44913f8df25920f0ee92fb412cc09896b80d61120e66f9eb3d2f0bd4", func := "loop.example/g01082/laws.FnExactLinkParts", spec := "fnExactLinkParts", unfollowed := true, recurses := true, apart := false, narrowed := true }
def FnExactLinkPartsUptoSaid : Prop := fnExactLinkPartsUptoRow.holds Try.pinned (OpenSpec.upto fnExactLinkPartsSpec)

/-- 'laws.FnExactRenumberNodes', WHERE WHAT IT READS IS OF BULK AT MOST 1048576: true; the input reads as it did. -/
def fnExactRenumberNodesUptoRow : OpenClaim := { program := "ytdejbacfgcahlaa", sum := "f668aeef44913f8df25920f0ee92fb412cc09896b80d61120e66f9eb3d2f0bd4", func := "loop.example/g01082/laws.FnExactRenumberNodes", spec := "fnExactRenumberNodes", unfollowed := true, recurses := true, apart := false, narrowed := true }
def FnExactRenumberNodesUptoSaid : Prop := fnExactRenumberNodesUptoRow.holds Try.pinned (OpenSpec.upto fnExactRenumberNodesSpec)

end Rows
end Go.Proofs.Ytdejbacfgcahlaa
