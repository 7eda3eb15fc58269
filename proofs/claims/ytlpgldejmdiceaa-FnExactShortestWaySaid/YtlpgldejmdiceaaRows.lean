/-
  No cell of these rows narrows 'for every input' (looked for: loops, veiled, ifaces, maps, wideKeys, modest, calm, conditions, laid).
  DERIVED. THE GIVEN ROWS OF THIS SEAT. 12 by the template 'for every input the law returns true; each argument reads behind the call as it read before'; 0 by the template 'total and deterministic' (their statements: YtlpgldejmdiceaaTotals.lean).
  GIVEN WITH THE SEED: the statements are not yours to turn. If you find one false, say at which input.
  Laid BY PROGRAM, IN A SANDBOX (cutbox-rows.mjs): the forced cells as the released guide's own fill.sh prints them over the translation 58048312fc405f91… (all of the seat's roots in one cut). By AI agents, Wed Nov 11 2026. No macro, syntax, notation, axiom, sorry.
-/
import Derived.Test.YtlpgldejmdiceaaChecked
import GoSem.Claim
import GoSem.ClaimJoined
import GoSem.ClaimMapViews
import Derived.JoinedTies
import Derived.KernelRfl
namespace Go.Proofs.Ytlpgldejmdiceaa
/- THE CELL 'sum', in the pinned program and in every row, IS THE sha256 OF THE DUMP (.gsa) THAT YtlpgldejmdiceaaProg.lean LOADS. Nothing in Lean hashes anything: it is a label: what it is worth is what the hold of that sum in a sandbox is worth. -/
noncomputable def Try.pinned : Pinned := { name := "ytlpgldejmdiceaa", sum := "58048312fc405f9102fb28ecc88851dee3c673c6920b2596fb9a49d6e7b7ba59", checked := Try.checked }
namespace Rows
def none {H : Type} : Left H := { results := [], args := [] }

/-- 'laws.FnExactIsWay': WHATEVER THE INPUT: true; the input reads as it did. -/
def fnExactIsWaySpec : ChangeSpec := { name := "fnExactIsWay", fn := fun _ => fun
  | [d1, d2, d3] => { results := [.lit (.bool true)], args := [d1, d2, d3] }
  | _ => none }
def fnExactIsWayRow : OpenClaim := { program := "ytlpgldejmdiceaa", sum := "58048312fc405f9102fb28ecc88851dee3c673c6920b2596fb9a49d6e7b7ba59", func := "loop.example/g01082/laws.FnExactIsWay", spec := "fnExactIsWay", unfollowed := true, recurses := true, apart := false }
def FnExactIsWaySaid : Prop := fnExactIsWayRow.holds Try.pinned (OpenSpec.ofChange fnExactIsWaySpec)

/-- ITS FALSE NEIGHBOUR: 'it returns false'. Refute it at one input. -/
def fnExactIsWayWrong : ChangeSpec := { name := "fnExactIsWay", fn := fun _ => fun
  | [d1, d2, d3] => { results := [.lit (.bool false)], args := [d1, d2, d3] }
  | _ => none }
def FnExactIsWayWrongFalsely : Prop := fnExactIsWayRow.holds Try.pinned (OpenSpec.ofChange fnExactIsWayWrong)

/-- 'laws.FnExactShortestWay': WHATEVER THE INPUT: true; the input reads as it did. -/
def fnExactShortestWaySpec : ChangeSpec := { name := "fnExactShortestWay", fn := fun _ => fun
  | [d1, d2, d3] => { results := [.lit (.bool true)], args := [d1, d2, d3] }
  | _ => none }
def fnExactShortestWayRow : OpenClaim := { program := "ytlpgldejmdiceaa", sum := "58048312fc405f9102fb28ecc88851dee3c673c6920b2596fb9a49d6e7b7ba59", func := "loop.example/g01082/laws.FnExactShortestWay", spec := "fnExactShortestWay", unfollowed := true, recurses := true, apart := false }
def FnExactShortestWaySaid : Prop := fnExactShortestWayRow.holds Try.pinned (OpenSpec.ofChange fnExactShortestWaySpec)

/-- ITS FALSE NEIGHBOUR: 'it returns false'. Refute it at one input. -/
def fnExactShortestWayWrong : ChangeSpec := { name := "fnExactShortestWay", fn := fun _ => fun
  | [d1, d2, d3] => { results := [.lit (.bool false)], args := [d1, d2, d3] }
  | _ => none }
def FnExactShortestWayWrongFalsely : Prop := fnExactShortestWayRow.holds Try.pinned (OpenSpec.ofChange fnExactShortestWayWrong)

/-- 'laws.FnExactReachedFrom': WHATEVER THE INPUT: true; the input reads as it did. -/
def fnExactReachedFromSpec : ChangeSpec := { name := "fnExactReachedFrom", fn := fun _ => fun
  | [d1, d2] => { results := [.lit (.bool true)], args := [d1, d2] }
  | _ => none }
def fnExactReachedFromRow : OpenClaim := { program := "ytlpgldejmdiceaa", sum := "58048312fc405f9102fb28ecc88851dee3c673c6920b2596fb9a49d6e7b7ba59", func := "loop.example/g01082/laws.FnExactReachedFrom", spec := "fnExactReachedFrom", unfollowed := true, recurses := true, apart := false }
def FnExactReachedFromSaid : Prop := fnExactReachedFromRow.holds Try.pinned (OpenSpec.ofChange fnExactReachedFromSpec)

/-- ITS FALSE NEIGHBOUR: 'it returns false'. Refute it at one input. -/
def fnExactReachedFromWrong : ChangeSpec := { name := "fnExactReachedFrom", fn := fun _ => fun
  | [d1, d2] => { results := [.lit (.bool false)], args := [d1, d2] }
  | _ => none }
def FnExactReachedFromWrongFalsely : Prop := fnExactReachedFromRow.holds Try.pinned (OpenSpec.ofChange fnExactReachedFromWrong)

/-- 'laws.FnExactIsClosedSet': WHATEVER THE INPUT: true; the input reads as it did. -/
def fnExactIsClosedSetSpec : ChangeSpec := { name := "fnExactIsClosedSet", fn := fun _ => fun
  | [d1, d2] => { results := [.lit (.bool true)], args := [d1, d2] }
  | _ => none }
def fnExactIsClosedSetRow : OpenClaim := { program := "ytlpgldejmdiceaa", sum := "58048312fc405f9102fb28ecc88851dee3c673c6920b2596fb9a49d6e7b7ba59", func := "loop.example/g01082/laws.FnExactIsClosedSet", spec := "fnExactIsClosedSet", unfollowed := true, recurses := true, apart := false }
def FnExactIsClosedSetSaid : Prop := fnExactIsClosedSetRow.holds Try.pinned (OpenSpec.ofChange fnExactIsClosedSetSpec)

/-- ITS FALSE NEIGHBOUR: 'it returns false'. Refute it at one input. -/
def fnExactIsClosedSetWrong : ChangeSpec := { name := "fnExactIsClosedSet", fn := fun _ => fun
  | [d1, d2] => { results := [.lit (.bool false)], args := [d1, d2] }
  | _ => none }
def FnExactIsClosedSetWrongFalsely : Prop := fnExactIsClosedSetRow.holds Try.pinned (OpenSpec.ofChange fnExactIsClosedSetWrong)

/-- 'laws.FnExactAlwaysHas': WHATEVER THE INPUT: true; the input reads as it did. -/
def fnExactAlwaysHasSpec : ChangeSpec := { name := "fnExactAlwaysHas", fn := fun _ => fun
  | [d1, d2, d3] => { results := [.lit (.bool true)], args := [d1, d2, d3] }
  | _ => none }
def fnExactAlwaysHasRow : OpenClaim := { program := "ytlpgldejmdiceaa", sum := "58048312fc405f9102fb28ecc88851dee3c673c6920b2596fb9a49d6e7b7ba59", func := "loop.example/g01082/laws.FnExactAlwaysHas", spec := "fnExactAlwaysHas", unfollowed := true, recurses := true, apart := false }
def FnExactAlwaysHasSaid : Prop := fnExactAlwaysHasRow.holds Try.pinned (OpenSpec.ofChange fnExactAlwaysHasSpec)

/-- ITS FALSE NEIGHBOUR: 'it returns false'. Refute it at one input. -/
def fnExactAlwaysHasWrong : ChangeSpec := { name := "fnExactAlwaysHas", fn := fun _ => fun
  | [d1, d2, d3] => { results := [.lit (.bool false)], args := [d1, d2, d3] }
  | _ => none }
def FnExactAlwaysHasWrongFalsely : Prop := fnExactAlwaysHasRow.holds Try.pinned (OpenSpec.ofChange fnExactAlwaysHasWrong)

/-- 'laws.FnExactRanksOf': WHATEVER THE INPUT: true; the input reads as it did. -/
def fnExactRanksOfSpec : ChangeSpec := { name := "fnExactRanksOf", fn := fun _ => fun
  | [d1, d2] => { results := [.lit (.bool true)], args := [d1, d2] }
  | _ => none }
def fnExactRanksOfRow : OpenClaim := { program := "ytlpgldejmdiceaa", sum := "58048312fc405f9102fb28ecc88851dee3c673c6920b2596fb9a49d6e7b7ba59", func := "loop.example/g01082/laws.FnExactRanksOf", spec := "fnExactRanksOf", unfollowed := true, recurses := true, apart := false }
def FnExactRanksOfSaid : Prop := fnExactRanksOfRow.holds Try.pinned (OpenSpec.ofChange fnExactRanksOfSpec)

/-- ITS FALSE NEIGHBOUR: 'it returns false'. Refute it at one input. -/
def fnExactRanksOfWrong : ChangeSpec := { name := "fnExactRanksOf", fn := fun _ => fun
  | [d1, d2] => { results := [.lit (.bool false)], args := [d1, d2] }
  | _ => none }
def FnExactRanksOfWrongFalsely : Prop := fnExactRanksOfRow.holds Try.pinned (OpenSpec.ofChange fnExactRanksOfWrong)

/-- 'laws.FnExactIsRanking': WHATEVER THE INPUT: true; the input reads as it did. -/
def fnExactIsRankingSpec : ChangeSpec := { name := "fnExactIsRanking", fn := fun _ => fun
  | [d1, d2, d3] => { results := [.lit (.bool true)], args := [d1, d2, d3] }
  | _ => none }
def fnExactIsRankingRow : OpenClaim := { program := "ytlpgldejmdiceaa", sum := "58048312fc405f9102fb28ecc88851dee3c673c6920b2596fb9a49d6e7b7ba59", func := "loop.example/g01082/laws.FnExactIsRanking", spec := "fnExactIsRanking", unfollowed := true, recurses := true, apart := false }
def FnExactIsRankingSaid : Prop := fnExactIsRankingRow.holds Try.pinned (OpenSpec.ofChange fnExactIsRankingSpec)

/-- ITS FALSE NEIGHBOUR: 'it returns false'. Refute it at one input. -/
def fnExactIsRankingWrong : ChangeSpec := { name := "fnExactIsRanking", fn := fun _ => fun
  | [d1, d2, d3] => { results := [.lit (.bool false)], args := [d1, d2, d3] }
  | _ => none }
def FnExactIsRankingWrongFalsely : Prop := fnExactIsRankingRow.holds Try.pinned (OpenSpec.ofChange fnExactIsRankingWrong)

/-- 'laws.FnExactEndStates': WHATEVER THE INPUT: true; the input reads as it did. -/
def fnExactEndStatesSpec : ChangeSpec := { name := "fnExactEndStates", fn := fun _ => fun
  | [d] => { results := [.lit (.bool true)], args := [d] }
  | _ => none }
def fnExactEndStatesRow : OpenClaim := { program := "ytlpgldejmdiceaa", sum := "58048312fc405f9102fb28ecc88851dee3c673c6920b2596fb9a49d6e7b7ba59", func := "loop.example/g01082/laws.FnExactEndStates", spec := "fnExactEndStates", unfollowed := true, recurses := true, apart := false }
def FnExactEndStatesSaid : Prop := fnExactEndStatesRow.holds Try.pinned (OpenSpec.ofChange fnExactEndStatesSpec)

/-- ITS FALSE NEIGHBOUR: 'it returns false'. Refute it at one input. -/
def fnExactEndStatesWrong : ChangeSpec := { name := "fnExactEndStates", fn := fun _ => fun
  | [d] => { results := [.lit (.bool false)], args := [d] }
  | _ => none }
def FnExactEndStatesWrongFalsely : Prop := fnExactEndStatesRow.holds Try.pinned (OpenSpec.ofChange fnExactEndStatesWrong)

/-- 'laws.FnExactLoopsOf': WHATEVER THE INPUT: true; the input reads as it did. -/
def fnExactLoopsOfSpec : ChangeSpec := { name := "fnExactLoopsOf", fn := fun _ => fun
  | [d] => { results := [.lit (.bool true)], args := [d] }
  | _ => none }
def fnExactLoopsOfRow : OpenClaim := { program := "ytlpgldejmdiceaa", sum := "58048312fc405f9102fb28ecc88851dee3c673c6920b2596fb9a49d6e7b7ba59", func := "loop.example/g01082/laws.FnExactLoopsOf", spec := "fnExactLoopsOf", unfollowed := true, recurses := true, apart := false }
def FnExactLoopsOfSaid : Prop := fnExactLoopsOfRow.holds Try.pinned (OpenSpec.ofChange fnExactLoopsOfSpec)

/-- ITS FALSE NEIGHBOUR: 'it returns false'. Refute it at one input. -/
def fnExactLoopsOfWrong : ChangeSpec := { name := "fnExactLoopsOf", fn := fun _ => fun
  | [d] => { results := [.lit (.bool false)], args := [d] }
  | _ => none }
def FnExactLoopsOfWrongFalsely : Prop := fnExactLoopsOfRow.holds Try.pinned (OpenSpec.ofChange fnExactLoopsOfWrong)

/-- 'laws.FnExactCountWays': WHATEVER THE INPUT: true; the input reads as it did. -/
def fnExactCountWaysSpec : ChangeSpec := { name := "fnExactCountWays", fn := fun _ => fun
  | [d1, d2, d3] => { results := [.lit (.bool true)], args := [d1, d2, d3] }
  | _ => none }
def fnExactCountWaysRow : OpenClaim := { program := "ytlpgldejmdiceaa", sum := "58048312fc405f9102fb28ecc88851dee3c673c6920b2596fb9a49d6e7b7ba59", func := "loop.example/g01082/laws.FnExactCountWays", spec := "fnExactCountWays", apart := false }
def FnExactCountWaysSaid : Prop := fnExactCountWaysRow.holds Try.pinned (OpenSpec.ofChange fnExactCountWaysSpec)

/-- ITS FALSE NEIGHBOUR: 'it returns false'. Refute it at one input. -/
def fnExactCountWaysWrong : ChangeSpec := { name := "fnExactCountWays", fn := fun _ => fun
  | [d1, d2, d3] => { results := [.lit (.bool false)], args := [d1, d2, d3] }
  | _ => none }
def FnExactCountWaysWrongFalsely : Prop := fnExactCountWaysRow.holds Try.pinned (OpenSpec.ofChange fnExactCountWaysWrong)

/-- 'laws.FnExactRuleWord': WHATEVER THE INPUT: true; the input reads as it did. -/
def fnExactRuleWordSpec : ChangeSpec := { name := "fnExactRuleWord", fn := fun _ => fun
  | [d1, d2] => { results := [.lit (.bool true)], args := [d1, d2] }
  | _ => none }
def fnExactRuleWordRow : OpenClaim := { program := "ytlpgldejmdiceaa", sum := "58048312fc405f9102fb28ecc88851dee3c673c6920b2596fb9a49d6e7b7ba59", func := "loop.example/g01082/laws.FnExactRuleWord", spec := "fnExactRuleWord", unfollowed := true, recurses := true, apart := false }
def FnExactRuleWordSaid : Prop := fnExactRuleWordRow.holds Try.pinned (OpenSpec.ofChange fnExactRuleWordSpec)

/-- ITS FALSE NEIGHBOUR: 'it returns false'. Refute it at one input. -/
def fnExactRuleWordWrong : ChangeSpec := { name := "fnExactRuleWord", fn := fun _ => fun
  | [d1, d2] => { results := [.lit (.bool false)], args := [d1, d2] }
  | _ => none }
def FnExactRuleWordWrongFalsely : Prop := fnExactRuleWordRow.holds Try.pinned (OpenSpec.ofChange fnExactRuleWordWrong)

/-- 'laws.FnExactIsLabelled': WHATEVER THE INPUT: true; the input reads as it did. -/
def fnExactIsLabelledSpec : ChangeSpec := { name := "fnExactIsLabelled", fn := fun _ => fun
  | [d] => { results := [.lit (.bool true)], args := [d] }
  | _ => none }
def fnExactIsLabelledRow : OpenClaim := { program := "ytlpgldejmdiceaa", sum := "58048312fc405f9102fb28ecc88851dee3c673c6920b2596fb9a49d6e7b7ba59", func := "loop.example/g01082/laws.FnExactIsLabelled", spec := "fnExactIsLabelled", unfollowed := true, recurses := true, apart := false }
def FnExactIsLabelledSaid : Prop := fnExactIsLabelledRow.holds Try.pinned (OpenSpec.ofChange fnExactIsLabelledSpec)

/-- ITS FALSE NEIGHBOUR: 'it returns false'. Refute it at one input. -/
def fnExactIsLabelledWrong : ChangeSpec := { name := "fnExactIsLabelled", fn := fun _ => fun
  | [d] => { results := [.lit (.bool false)], args := [d] }
  | _ => none }
def FnExactIsLabelledWrongFalsely : Prop := fnExactIsLabelledRow.holds Try.pinned (OpenSpec.ofChange fnExactIsLabelledWrong)

/- THE SECOND FORM. 'bulk': how many values and letters a reading holds, each counted each time it is reached (what is shared counts as often as it is met; a slice's spare places count too). A statement '..UptoSaid' is the law's where the arguments, and the package variables that the reading takes, are together of bulk at most 1048576: NARROWER than '..Said'. Prove '..Said' where nothing that the law and all that it calls make is longer than what came in: it says more and counts as full. Else prove '..UptoSaid'. A law counts once. -/
mutual
def uptoBulk {H : Type} : DataW H → Nat
  | .lit (.string bytes) => bytes.length + 1
  | .lit _ => 1
  | .nil => 1
  | .ptr d => uptoBulk d + 1
  | .slice elems spare => uptoBulkAll elems + uptoBulkAll spare + 1
  | .agg parts => uptoBulkAll parts + 1
  | .iface _ d => uptoBulk d + 1
  | .map entries => uptoBulkEntries entries + 1
  | .held _ => 1
def uptoBulkAll {H : Type} : List (DataW H) → Nat
  | [] => 0
  | d :: r => uptoBulk d + uptoBulkAll r
def uptoBulkEntries {H : Type} : List (Lit × DataW H) → Nat
  | [] => 0
  | x :: r => uptoBulkEntry x + uptoBulkEntries r
def uptoBulkEntry {H : Type} : Lit × DataW H → Nat
  | (.string bytes, d) => bytes.length + uptoBulk d + 1
  | (_, d) => uptoBulk d + 1
 end
def uptoSmall : (H : Type) → List (DataW H) → Bool := fun _ ds => decide (uptoBulkAll ds ≤ 1048576)
def OpenSpec.upto (s : _root_.Go.ChangeSpec) : _root_.Go.OpenSpec := { _root_.Go.OpenSpec.ofChange s with cond := some uptoSmall }

/-- 'laws.FnExactIsWay', WHERE WHAT IT READS IS OF BULK AT MOST 1048576: true; the input reads as it did. -/
def fnExactIsWayUptoRow : OpenClaim := { program := "ytlpgldejmdiceaa", sum := "58048312fc405f9102fb28ecc88851dee3c673c6920b2596fb9a49d6e7b7ba59", func := "loop.example/g01082/laws.FnExactIsWay", spec := "fnExactIsWay", unfollowed := true, recurses := true, apart := false, narrowed := true }
def FnExactIsWayUptoSaid : Prop := fnExactIsWayUptoRow.holds Try.pinned (OpenSpec.upto fnExactIsWaySpec)

/-- 'laws.FnExactShortestWay', WHERE WHAT IT READS IS OF BULK AT MOST 1048576: true; the input reads as it did. -/
def fnExactShortestWayUptoRow : OpenClaim := { program := "ytlpgldejmdiceaa", sum := "58048312fc405f9102fb28ecc88851dee3c673c6920b2596fb9a49d6e7b7ba59", func := "loop.example/g01082/laws.FnExactShortestWay", spec := "fnExactShortestWay", unfollowed := true, recurses := true, apart := false, narrowed := true }
def FnExactShortestWayUptoSaid : Prop := fnExactShortestWayUptoRow.holds Try.pinned (OpenSpec.upto fnExactShortestWaySpec)

/-- 'laws.FnExactReachedFrom', WHERE WHAT IT READS IS OF BULK AT MOST 1048576: true; the input reads as it did. -/
def fnExactReachedFromUptoRow : OpenClaim := { program := "ytlpgldejmdiceaa", sum := "58048312fc405f9102fb28ecc88851dee3c673c6920b2596fb9a49d6e7b7ba59", func := "loop.example/g01082/laws.FnExactReachedFrom", spec := "fnExactReachedFrom", unfollowed := true, recurses := true, apart := false, narrowed := true }
def FnExactReachedFromUptoSaid : Prop := fnExactReachedFromUptoRow.holds Try.pinned (OpenSpec.upto fnExactReachedFromSpec)

/-- 'laws.FnExactIsClosedSet', WHERE WHAT IT READS IS OF BULK AT MOST 1048576: true; the input reads as it did. -/
def fnExactIsClosedSetUptoRow : OpenClaim := { program := "ytlpgldejmdiceaa", sum := "58048312fc405f9102fb28ecc88851dee3c673c6920b2596fb9a49d6e7b7ba59", func := "loop.example/g01082/laws.FnExactIsClosedSet", spec := "fnExactIsClosedSet", unfollowed := true, recurses := true, apart := false, narrowed := true }
def FnExactIsClosedSetUptoSaid : Prop := fnExactIsClosedSetUptoRow.holds Try.pinned (OpenSpec.upto fnExactIsClosedSetSpec)

/-- 'laws.FnExactAlwaysHas', WHERE WHAT IT READS IS OF BULK AT MOST 1048576: true; the input reads as it did. -/
def fnExactAlwaysHasUptoRow : OpenClaim := { program := "ytlpgldejmdiceaa", sum := "58048312fc405f9102fb28ecc88851dee3c673c6920b2596fb9a49d6e7b7ba59", func := "loop.example/g01082/laws.FnExactAlwaysHas", spec := "fnExactAlwaysHas", unfollowed := true, recurses := true, apart := false, narrowed := true }
def FnExactAlwaysHasUptoSaid : Prop := fnExactAlwaysHasUptoRow.holds Try.pinned (OpenSpec.upto fnExactAlwaysHasSpec)

/-- 'laws.FnExactRanksOf', WHERE WHAT IT READS IS OF BULK AT MOST 1048576: true; the input reads as it did. -/
def fnExactRanksOfUptoRow : OpenClaim := { program := "ytlpgldejmdiceaa", sum := "58048312fc405f9102fb28ecc88851dee3c673c6920b2596fb9a49d6e7b7ba59", func := "loop.example/g01082/laws.FnExactRanksOf", spec := "fnExactRanksOf", unfollowed := true, recurses := true, apart := false, narrowed := true }
def FnExactRanksOfUptoSaid : Prop := fnExactRanksOfUptoRow.holds Try.pinned (OpenSpec.upto fnExactRanksOfSpec)

/-- 'laws.FnExactIsRanking', WHERE WHAT IT READS IS OF BULK AT MOST 1048576: true; the input reads as it did. -/
def fnExactIsRankingUptoRow : OpenClaim := { program := "ytlpgldejmdiceaa", sum := "58048312fc405f9102fb28ecc88851dee3c673c6920b2596fb9a49d6e7b7ba59", func := "loop.example/g01082/laws.FnExactIsRanking", spec := "fnExactIsRanking", unfollowed := true, recurses := true, apart := false, narrowed := true }
def FnExactIsRankingUptoSaid : Prop := fnExactIsRankingUptoRow.holds Try.pinned (OpenSpec.upto fnExactIsRankingSpec)

/-- 'laws.FnExactEndStates', WHERE WHAT IT READS IS OF BULK AT MOST 1048576: true; the input reads as it did. -/
def fnExactEndStatesUptoRow : OpenClaim := { program := "ytlpgldejmdiceaa", sum := "58048312fc405f9102fb28ecc88851dee3c673c6920b2596fb9a49d6e7b7ba59", func := "loop.example/g01082/laws.FnExactEndStates", spec := "fnExactEndStates", unfollowed := true, recurses := true, apart := false, narrowed := true }
def FnExactEndStatesUptoSaid : Prop := fnExactEndStatesUptoRow.holds Try.pinned (OpenSpec.upto fnExactEndStatesSpec)

/-- 'laws.FnExactLoopsOf', WHERE WHAT IT READS IS OF BULK AT MOST 1048576: true; the input reads as it did. -/
def fnExactLoopsOfUptoRow : OpenClaim := { program := "ytlpgldejmdiceaa", sum := "58048312fc405f9102fb28ecc88851dee3c673c6920b2596fb9a49d6e7b7ba59", func := "loop.example/g01082/laws.FnExactLoopsOf", spec := "fnExactLoopsOf", unfollowed := true, recurses := true, apart := false, narrowed := true }
def FnExactLoopsOfUptoSaid : Prop := fnExactLoopsOfUptoRow.holds Try.pinned (OpenSpec.upto fnExactLoopsOfSpec)

/-- 'laws.FnExactCountWays', WHERE WHAT IT READS IS OF BULK AT MOST 1048576: true; the input reads as it did. -/
def fnExactCountWaysUptoRow : OpenClaim := { program := "ytlpgldejmdiceaa", sum := "58048312fc405f9102fb28ecc88851dee3c673c6920b2596fb9a49d6e7b7ba59", func := "loop.example/g01082/laws.FnExactCountWays", spec := "fnExactCountWays", apart := false, narrowed := true }
def FnExactCountWaysUptoSaid : Prop := fnExactCountWaysUptoRow.holds Try.pinned (OpenSpec.upto fnExactCountWaysSpec)

/-- 'laws.FnExactRuleWord', WHERE WHAT IT READS IS OF BULK AT MOST 1048576: true; the input reads as it did. -/
def fnExactRuleWordUptoRow : OpenClaim := { program := "ytlpgldejmdiceaa", sum := "58048312fc405f9102fb28ecc88851dee3c673c6920b2596fb9a49d6e7b7ba59", func := "loop.example/g01082/laws.FnExactRuleWord", spec := "fnExactRuleWord", unfollowed := true, recurses := true, apart := false, narrowed := true }
def FnExactRuleWordUptoSaid : Prop := fnExactRuleWordUptoRow.holds Try.pinned (OpenSpec.upto fnExactRuleWordSpec)

/-- 'laws.FnExactIsLabelled', WHERE WHAT IT READS IS OF BULK AT MOST 1048576: true; the input reads as it did. -/
def fnExactIsLabelledUptoRow : OpenClaim := { program := "ytlpgldejmdiceaa", sum := "58048312fc405f9102fb28ecc88851dee3c673c6920b2596fb9a49d6e7b7ba59", func := "loop.example/g01082/laws.FnExactIsLabelled", spec := "fnExactIsLabelled", unfollowed := true, recurses := true, apart := false, narrowed := true }
def FnExactIsLabelledUptoSaid : Prop := fnExactIsLabelledUptoRow.holds Try.pinned (OpenSpec.upto fnExactIsLabelledSpec)

end Rows
end Go.Proofs.Ytlpgldejmdiceaa
