/-
  NARROWER THAN 'FOR EVERY INPUT', by the rows' own cells (each row's printed sentence says how): FnExactIsFormula: laid · FnExactIsBisimulation: laid · FnExactIsSimulated: laid · FnExactBisimilarOf: laid · FnExactWeaklyBisimilarOf: laid · FnExactSaturateLabels: laid · FnExactUnionOf: laid · FnExactQuotientOf: laid · FnExactSatisfying: laid.
  DERIVED. THE GIVEN ROWS OF THIS SEAT. 9 by the template 'for every input the law returns true; each argument reads behind the call as it read before'; 0 by the template 'total and deterministic' (their statements: YtlpgldejmdiceabDoorTotals.lean).
  GIVEN WITH THE SEED: the statements are not yours to turn. If you find one false, say at which input.
  Laid BY PROGRAM, IN A SANDBOX (cutbox-rows.mjs): the forced cells as the released guide's own fill.sh prints them over the translation ebf969a6b7d4e9ec… (all of the seat's roots in one cut). By AI agents, Wed Nov 11 2026. No macro, syntax, notation, axiom, sorry.
-/
import Derived.Test.YtlpgldejmdiceabDoorChecked
import GoSem.Claim
import GoSem.ClaimJoined
import GoSem.ClaimMapViews
import Derived.JoinedTies
import Derived.KernelRfl
namespace Go.Proofs.YtlpgldejmdiceabDoor
/- THE CELL 'sum', in the pinned program and in every row, IS THE sha256 OF THE DUMP (.gsa) THAT YtlpgldejmdiceabDoorProg.lean LOADS. Nothing in Lean hashes anything: it is a label: what it is worth is what the hold of that sum in a sandbox is worth. -/
noncomputable def Tryd.pinned : Pinned := { name := "ytlpgldejmdiceabdoor", sum := "ebf969a6b7d4e9ec371caca511dc088cf46cc643df9da7bbd2baf9b206ddc014", checked := Tryd.checked }
namespace Rows
def none {H : Type} : Left H := { results := [], args := [] }

/- WHAT THE LISTED PACKAGE-LEVEL VARIABLES READ AS WHEN THE CALL BEGINS. Each datum BY PROGRAM (the guide's laid-datum.mjs) off the statement by which the dump's own 'gosem.cut.vars' lays the variable. In a bare row this is a premise. The card (YtlpgldejmdiceabDoorCards.lean) ties it to the program's text. -/
def laid_math_bits_deBruijn32tab {H : Type} : DataW H := .agg [.lit (.int .u8 0), .lit (.int .u8 1), .lit (.int .u8 28), .lit (.int .u8 2), .lit (.int .u8 29), .lit (.int .u8 14), .lit (.int .u8 24), .lit (.int .u8 3), .lit (.int .u8 30), .lit (.int .u8 22), .lit (.int .u8 20), .lit (.int .u8 15), .lit (.int .u8 25), .lit (.int .u8 17), .lit (.int .u8 4), .lit (.int .u8 8), .lit (.int .u8 31), .lit (.int .u8 27), .lit (.int .u8 13), .lit (.int .u8 23), .lit (.int .u8 21), .lit (.int .u8 19), .lit (.int .u8 16), .lit (.int .u8 7), .lit (.int .u8 26), .lit (.int .u8 12), .lit (.int .u8 18), .lit (.int .u8 6), .lit (.int .u8 11), .lit (.int .u8 5), .lit (.int .u8 10), .lit (.int .u8 9)]
def laid_math_bits_deBruijn64tab {H : Type} : DataW H := .agg [.lit (.int .u8 0), .lit (.int .u8 1), .lit (.int .u8 56), .lit (.int .u8 2), .lit (.int .u8 57), .lit (.int .u8 49), .lit (.int .u8 28), .lit (.int .u8 3), .lit (.int .u8 61), .lit (.int .u8 58), .lit (.int .u8 42), .lit (.int .u8 50), .lit (.int .u8 38), .lit (.int .u8 29), .lit (.int .u8 17), .lit (.int .u8 4), .lit (.int .u8 62), .lit (.int .u8 47), .lit (.int .u8 59), .lit (.int .u8 36), .lit (.int .u8 45), .lit (.int .u8 43), .lit (.int .u8 51), .lit (.int .u8 22), .lit (.int .u8 53), .lit (.int .u8 39), .lit (.int .u8 33), .lit (.int .u8 30), .lit (.int .u8 24), .lit (.int .u8 18), .lit (.int .u8 12), .lit (.int .u8 5), .lit (.int .u8 63), .lit (.int .u8 55), .lit (.int .u8 48), .lit (.int .u8 27), .lit (.int .u8 60), .lit (.int .u8 41), .lit (.int .u8 37), .lit (.int .u8 16), .lit (.int .u8 46), .lit (.int .u8 35), .lit (.int .u8 44), .lit (.int .u8 21), .lit (.int .u8 52), .lit (.int .u8 32), .lit (.int .u8 23), .lit (.int .u8 11), .lit (.int .u8 54), .lit (.int .u8 26), .lit (.int .u8 40), .lit (.int .u8 15), .lit (.int .u8 34), .lit (.int .u8 20), .lit (.int .u8 31), .lit (.int .u8 10), .lit (.int .u8 25), .lit (.int .u8 14), .lit (.int .u8 19), .lit (.int .u8 9), .lit (.int .u8 13), .lit (.int .u8 8), .lit (.int .u8 7), .lit (.int .u8 6)]
def laid_internal_strconv_uint64pow10 {H : Type} : DataW H := .agg [.lit (.int .u64 1), .lit (.int .u64 10), .lit (.int .u64 100), .lit (.int .u64 1000), .lit (.int .u64 10000), .lit (.int .u64 100000), .lit (.int .u64 1000000), .lit (.int .u64 10000000), .lit (.int .u64 100000000), .lit (.int .u64 1000000000), .lit (.int .u64 10000000000), .lit (.int .u64 100000000000), .lit (.int .u64 1000000000000), .lit (.int .u64 10000000000000), .lit (.int .u64 100000000000000), .lit (.int .u64 1000000000000000), .lit (.int .u64 10000000000000000), .lit (.int .u64 100000000000000000), .lit (.int .u64 1000000000000000000), .lit (.int .u64 10000000000000000000)]

/-- 'laws.FnExactIsFormula': WHATEVER THE INPUT: true; the input reads as it did. -/
def fnExactIsFormulaSpec : ChangeSpec := { name := "fnExactIsFormula", fn := fun _ => fun
  | [d] => { results := [.lit (.bool true)], args := [d] }
  | _ => none }
def fnExactIsFormulaRow : OpenClaim := { program := "ytlpgldejmdiceabdoor", sum := "ebf969a6b7d4e9ec371caca511dc088cf46cc643df9da7bbd2baf9b206ddc014", func := "loop.example/g01082/laws.FnExactIsFormula", spec := "fnExactIsFormula", unfollowed := true, recurses := true, named := ["internal/strconv.uint64pow10", "math/bits.deBruijn32tab", "math/bits.deBruijn64tab"], apart := false, laid := [("math/bits.deBruijn32tab", laid_math_bits_deBruijn32tab), ("math/bits.deBruijn64tab", laid_math_bits_deBruijn64tab), ("internal/strconv.uint64pow10", laid_internal_strconv_uint64pow10)] }
def FnExactIsFormulaSaid : Prop := fnExactIsFormulaRow.holds Tryd.pinned (OpenSpec.ofChange fnExactIsFormulaSpec)

/-- ITS FALSE NEIGHBOUR: 'it returns false'. Refute it at one input. -/
def fnExactIsFormulaWrong : ChangeSpec := { name := "fnExactIsFormula", fn := fun _ => fun
  | [d] => { results := [.lit (.bool false)], args := [d] }
  | _ => none }
def FnExactIsFormulaWrongFalsely : Prop := fnExactIsFormulaRow.holds Tryd.pinned (OpenSpec.ofChange fnExactIsFormulaWrong)

/-- 'laws.FnExactIsBisimulation': WHATEVER THE INPUT: true; the input reads as it did. -/
def fnExactIsBisimulationSpec : ChangeSpec := { name := "fnExactIsBisimulation", fn := fun _ => fun
  | [d1, d2] => { results := [.lit (.bool true)], args := [d1, d2] }
  | _ => none }
def fnExactIsBisimulationRow : OpenClaim := { program := "ytlpgldejmdiceabdoor", sum := "ebf969a6b7d4e9ec371caca511dc088cf46cc643df9da7bbd2baf9b206ddc014", func := "loop.example/g01082/laws.FnExactIsBisimulation", spec := "fnExactIsBisimulation", unfollowed := true, recurses := true, named := ["math/bits.deBruijn64tab"], apart := false, laid := [("math/bits.deBruijn64tab", laid_math_bits_deBruijn64tab)] }
def FnExactIsBisimulationSaid : Prop := fnExactIsBisimulationRow.holds Tryd.pinned (OpenSpec.ofChange fnExactIsBisimulationSpec)

/-- ITS FALSE NEIGHBOUR: 'it returns false'. Refute it at one input. -/
def fnExactIsBisimulationWrong : ChangeSpec := { name := "fnExactIsBisimulation", fn := fun _ => fun
  | [d1, d2] => { results := [.lit (.bool false)], args := [d1, d2] }
  | _ => none }
def FnExactIsBisimulationWrongFalsely : Prop := fnExactIsBisimulationRow.holds Tryd.pinned (OpenSpec.ofChange fnExactIsBisimulationWrong)

/-- 'laws.FnExactIsSimulated': WHATEVER THE INPUT: true; the input reads as it did. -/
def fnExactIsSimulatedSpec : ChangeSpec := { name := "fnExactIsSimulated", fn := fun _ => fun
  | [d1, d2, d3] => { results := [.lit (.bool true)], args := [d1, d2, d3] }
  | _ => none }
def fnExactIsSimulatedRow : OpenClaim := { program := "ytlpgldejmdiceabdoor", sum := "ebf969a6b7d4e9ec371caca511dc088cf46cc643df9da7bbd2baf9b206ddc014", func := "loop.example/g01082/laws.FnExactIsSimulated", spec := "fnExactIsSimulated", unfollowed := true, recurses := true, named := ["math/bits.deBruijn64tab"], apart := false, laid := [("math/bits.deBruijn64tab", laid_math_bits_deBruijn64tab)] }
def FnExactIsSimulatedSaid : Prop := fnExactIsSimulatedRow.holds Tryd.pinned (OpenSpec.ofChange fnExactIsSimulatedSpec)

/-- ITS FALSE NEIGHBOUR: 'it returns false'. Refute it at one input. -/
def fnExactIsSimulatedWrong : ChangeSpec := { name := "fnExactIsSimulated", fn := fun _ => fun
  | [d1, d2, d3] => { results := [.lit (.bool false)], args := [d1, d2, d3] }
  | _ => none }
def FnExactIsSimulatedWrongFalsely : Prop := fnExactIsSimulatedRow.holds Tryd.pinned (OpenSpec.ofChange fnExactIsSimulatedWrong)

/-- 'laws.FnExactBisimilarOf': WHATEVER THE INPUT: true; the input reads as it did. -/
def fnExactBisimilarOfSpec : ChangeSpec := { name := "fnExactBisimilarOf", fn := fun _ => fun
  | [d] => { results := [.lit (.bool true)], args := [d] }
  | _ => none }
def fnExactBisimilarOfRow : OpenClaim := { program := "ytlpgldejmdiceabdoor", sum := "ebf969a6b7d4e9ec371caca511dc088cf46cc643df9da7bbd2baf9b206ddc014", func := "loop.example/g01082/laws.FnExactBisimilarOf", spec := "fnExactBisimilarOf", unfollowed := true, recurses := true, named := ["math/bits.deBruijn64tab"], apart := false, laid := [("math/bits.deBruijn64tab", laid_math_bits_deBruijn64tab)] }
def FnExactBisimilarOfSaid : Prop := fnExactBisimilarOfRow.holds Tryd.pinned (OpenSpec.ofChange fnExactBisimilarOfSpec)

/-- ITS FALSE NEIGHBOUR: 'it returns false'. Refute it at one input. -/
def fnExactBisimilarOfWrong : ChangeSpec := { name := "fnExactBisimilarOf", fn := fun _ => fun
  | [d] => { results := [.lit (.bool false)], args := [d] }
  | _ => none }
def FnExactBisimilarOfWrongFalsely : Prop := fnExactBisimilarOfRow.holds Tryd.pinned (OpenSpec.ofChange fnExactBisimilarOfWrong)

/-- 'laws.FnExactWeaklyBisimilarOf': WHATEVER THE INPUT: true; the input reads as it did. -/
def fnExactWeaklyBisimilarOfSpec : ChangeSpec := { name := "fnExactWeaklyBisimilarOf", fn := fun _ => fun
  | [d] => { results := [.lit (.bool true)], args := [d] }
  | _ => none }
def fnExactWeaklyBisimilarOfRow : OpenClaim := { program := "ytlpgldejmdiceabdoor", sum := "ebf969a6b7d4e9ec371caca511dc088cf46cc643df9da7bbd2baf9b206ddc014", func := "loop.example/g01082/laws.FnExactWeaklyBisimilarOf", spec := "fnExactWeaklyBisimilarOf", unfollowed := true, recurses := true, named := ["math/bits.deBruijn64tab"], apart := false, laid := [("math/bits.deBruijn64tab", laid_math_bits_deBruijn64tab)] }
def FnExactWeaklyBisimilarOfSaid : Prop := fnExactWeaklyBisimilarOfRow.holds Tryd.pinned (OpenSpec.ofChange fnExactWeaklyBisimilarOfSpec)

/-- ITS FALSE NEIGHBOUR: 'it returns false'. Refute it at one input. -/
def fnExactWeaklyBisimilarOfWrong : ChangeSpec := { name := "fnExactWeaklyBisimilarOf", fn := fun _ => fun
  | [d] => { results := [.lit (.bool false)], args := [d] }
  | _ => none }
def FnExactWeaklyBisimilarOfWrongFalsely : Prop := fnExactWeaklyBisimilarOfRow.holds Tryd.pinned (OpenSpec.ofChange fnExactWeaklyBisimilarOfWrong)

/-- 'laws.FnExactSaturateLabels': WHATEVER THE INPUT: true; the input reads as it did. -/
def fnExactSaturateLabelsSpec : ChangeSpec := { name := "fnExactSaturateLabels", fn := fun _ => fun
  | [d] => { results := [.lit (.bool true)], args := [d] }
  | _ => none }
def fnExactSaturateLabelsRow : OpenClaim := { program := "ytlpgldejmdiceabdoor", sum := "ebf969a6b7d4e9ec371caca511dc088cf46cc643df9da7bbd2baf9b206ddc014", func := "loop.example/g01082/laws.FnExactSaturateLabels", spec := "fnExactSaturateLabels", unfollowed := true, recurses := true, named := ["math/bits.deBruijn64tab"], apart := false, laid := [("math/bits.deBruijn64tab", laid_math_bits_deBruijn64tab)] }
def FnExactSaturateLabelsSaid : Prop := fnExactSaturateLabelsRow.holds Tryd.pinned (OpenSpec.ofChange fnExactSaturateLabelsSpec)

/-- ITS FALSE NEIGHBOUR: 'it returns false'. Refute it at one input. -/
def fnExactSaturateLabelsWrong : ChangeSpec := { name := "fnExactSaturateLabels", fn := fun _ => fun
  | [d] => { results := [.lit (.bool false)], args := [d] }
  | _ => none }
def FnExactSaturateLabelsWrongFalsely : Prop := fnExactSaturateLabelsRow.holds Tryd.pinned (OpenSpec.ofChange fnExactSaturateLabelsWrong)

/-- 'laws.FnExactUnionOf': WHATEVER THE INPUT: true; the input reads as it did. -/
def fnExactUnionOfSpec : ChangeSpec := { name := "fnExactUnionOf", fn := fun _ => fun
  | [d1, d2] => { results := [.lit (.bool true)], args := [d1, d2] }
  | _ => none }
def fnExactUnionOfRow : OpenClaim := { program := "ytlpgldejmdiceabdoor", sum := "ebf969a6b7d4e9ec371caca511dc088cf46cc643df9da7bbd2baf9b206ddc014", func := "loop.example/g01082/laws.FnExactUnionOf", spec := "fnExactUnionOf", unfollowed := true, recurses := true, named := ["math/bits.deBruijn64tab"], apart := false, laid := [("math/bits.deBruijn64tab", laid_math_bits_deBruijn64tab)] }
def FnExactUnionOfSaid : Prop := fnExactUnionOfRow.holds Tryd.pinned (OpenSpec.ofChange fnExactUnionOfSpec)

/-- ITS FALSE NEIGHBOUR: 'it returns false'. Refute it at one input. -/
def fnExactUnionOfWrong : ChangeSpec := { name := "fnExactUnionOf", fn := fun _ => fun
  | [d1, d2] => { results := [.lit (.bool false)], args := [d1, d2] }
  | _ => none }
def FnExactUnionOfWrongFalsely : Prop := fnExactUnionOfRow.holds Tryd.pinned (OpenSpec.ofChange fnExactUnionOfWrong)

/-- 'laws.FnExactQuotientOf': WHATEVER THE INPUT: true; the input reads as it did. -/
def fnExactQuotientOfSpec : ChangeSpec := { name := "fnExactQuotientOf", fn := fun _ => fun
  | [d] => { results := [.lit (.bool true)], args := [d] }
  | _ => none }
def fnExactQuotientOfRow : OpenClaim := { program := "ytlpgldejmdiceabdoor", sum := "ebf969a6b7d4e9ec371caca511dc088cf46cc643df9da7bbd2baf9b206ddc014", func := "loop.example/g01082/laws.FnExactQuotientOf", spec := "fnExactQuotientOf", unfollowed := true, recurses := true, named := ["math/bits.deBruijn64tab"], apart := false, laid := [("math/bits.deBruijn64tab", laid_math_bits_deBruijn64tab)] }
def FnExactQuotientOfSaid : Prop := fnExactQuotientOfRow.holds Tryd.pinned (OpenSpec.ofChange fnExactQuotientOfSpec)

/-- ITS FALSE NEIGHBOUR: 'it returns false'. Refute it at one input. -/
def fnExactQuotientOfWrong : ChangeSpec := { name := "fnExactQuotientOf", fn := fun _ => fun
  | [d] => { results := [.lit (.bool false)], args := [d] }
  | _ => none }
def FnExactQuotientOfWrongFalsely : Prop := fnExactQuotientOfRow.holds Tryd.pinned (OpenSpec.ofChange fnExactQuotientOfWrong)

/-- 'laws.FnExactSatisfying': WHATEVER THE INPUT: true; the input reads as it did. -/
def fnExactSatisfyingSpec : ChangeSpec := { name := "fnExactSatisfying", fn := fun _ => fun
  | [d1, d2] => { results := [.lit (.bool true)], args := [d1, d2] }
  | _ => none }
def fnExactSatisfyingRow : OpenClaim := { program := "ytlpgldejmdiceabdoor", sum := "ebf969a6b7d4e9ec371caca511dc088cf46cc643df9da7bbd2baf9b206ddc014", func := "loop.example/g01082/laws.FnExactSatisfying", spec := "fnExactSatisfying", unfollowed := true, recurses := true, named := ["internal/strconv.uint64pow10", "math/bits.deBruijn32tab", "math/bits.deBruijn64tab"], apart := false, laid := [("math/bits.deBruijn32tab", laid_math_bits_deBruijn32tab), ("math/bits.deBruijn64tab", laid_math_bits_deBruijn64tab), ("internal/strconv.uint64pow10", laid_internal_strconv_uint64pow10)] }
def FnExactSatisfyingSaid : Prop := fnExactSatisfyingRow.holds Tryd.pinned (OpenSpec.ofChange fnExactSatisfyingSpec)

/-- ITS FALSE NEIGHBOUR: 'it returns false'. Refute it at one input. -/
def fnExactSatisfyingWrong : ChangeSpec := { name := "fnExactSatisfying", fn := fun _ => fun
  | [d1, d2] => { results := [.lit (.bool false)], args := [d1, d2] }
  | _ => none }
def FnExactSatisfyingWrongFalsely : Prop := fnExactSatisfyingRow.holds Tryd.pinned (OpenSpec.ofChange fnExactSatisfyingWrong)

/- THE SECOND FORM. 'bulk': how many values and letters a reading holds, each counted each time it is reached (what is shared counts as often as it is met; a slice's spare places count too). A statement '..UptoSaid' is the law's where the arguments, and the package variables that the reading takes, are together of bulk at most 1048576: NARROWER than '..Said'. Prove '..Said' where nothing that the law and all that it calls make is longer than what came in: it says more and counts as full. Else prove '..UptoSaid'. A law counts once. -/
mutual
def uptoBulk {H : Type} : DataW H → Nat
  | .lit (.string bytes) => bytes.length + 1
  | .lit _ => 1
  | .nil => 1
  | .ptr d => uptoBulk d + 1
  | .slice elems spare => uptoBulkAll elems + uptoBulkAll spare + 1
  | .agg parts => uptoBulkAll parts + 1
  | .iface _ d => uptoBulk d + 1
  | .map entries => uptoBulkEntries entries + 1
  | .held _ => 1
def uptoBulkAll {H : Type} : List (DataW H) → Nat
  | [] => 0
  | d :: r => uptoBulk d + uptoBulkAll r
def uptoBulkEntries {H : Type} : List (Lit × DataW H) → Nat
  | [] => 0
  | x :: r => uptoBulkEntry x + uptoBulkEntries r
def uptoBulkEntry {H : Type} : Lit × DataW H → Nat
  | (.string bytes, d) => bytes.length + uptoBulk d + 1
  | (_, d) => uptoBulk d + 1
 end
def uptoSmall : (H : Type) → List (DataW H) → Bool := fun _ ds => decide (uptoBulkAll ds ≤ 1048576)
def OpenSpec.upto (s : _root_.Go.ChangeSpec) : _root_.Go.OpenSpec := { _root_.Go.OpenSpec.ofChange s with cond := some uptoSmall }

/-- 'laws.FnExactIsFormula', WHERE WHAT IT READS IS OF BULK AT MOST 1048576: true; the input reads as it did. -/
def fnExactIsFormulaUptoRow : OpenClaim := { program := "ytlpgldejmdiceabdoor", sum := "ebf969a6b7d4e9ec371caca511dc088cf46cc643df9da7bbd2baf9b206ddc014", func := "loop.example/g01082/laws.FnExactIsFormula", spec := "fnExactIsFormula", unfollowed := true, recurses := true, named := ["internal/strconv.uint64pow10", "math/bits.deBruijn32tab", "math/bits.deBruijn64tab"], apart := false, laid := [("math/bits.deBruijn32tab", laid_math_bits_deBruijn32tab), ("math/bits.deBruijn64tab", laid_math_bits_deBruijn64tab), ("internal/strconv.uint64pow10", laid_internal_strconv_uint64pow10)], narrowed := true }
def FnExactIsFormulaUptoSaid : Prop := fnExactIsFormulaUptoRow.holds Tryd.pinned (OpenSpec.upto fnExactIsFormulaSpec)

/-- 'laws.FnExactIsBisimulation', WHERE WHAT IT READS IS OF BULK AT MOST 1048576: true; the input reads as it did. -/
def fnExactIsBisimulationUptoRow : OpenClaim := { program := "ytlpgldejmdiceabdoor", sum := "ebf969a6b7d4e9ec371caca511dc088cf46cc643df9da7bbd2baf9b206ddc014", func := "loop.example/g01082/laws.FnExactIsBisimulation", spec := "fnExactIsBisimulation", unfollowed := true, recurses := true, named := ["math/bits.deBruijn64tab"], apart := false, laid := [("math/bits.deBruijn64tab", laid_math_bits_deBruijn64tab)], narrowed := true }
def FnExactIsBisimulationUptoSaid : Prop := fnExactIsBisimulationUptoRow.holds Tryd.pinned (OpenSpec.upto fnExactIsBisimulationSpec)

/-- 'laws.FnExactIsSimulated', WHERE WHAT IT READS IS OF BULK AT MOST 1048576: true; the input reads as it did. -/
def fnExactIsSimulatedUptoRow : OpenClaim := { program := "ytlpgldejmdiceabdoor", sum := "ebf969a6b7d4e9ec371caca511dc088cf46cc643df9da7bbd2baf9b206ddc014", func := "loop.example/g01082/laws.FnExactIsSimulated", spec := "fnExactIsSimulated", unfollowed := true, recurses := true, named := ["math/bits.deBruijn64tab"], apart := false, laid := [("math/bits.deBruijn64tab", laid_math_bits_deBruijn64tab)], narrowed := true }
def FnExactIsSimulatedUptoSaid : Prop := fnExactIsSimulatedUptoRow.holds Tryd.pinned (OpenSpec.upto fnExactIsSimulatedSpec)

/-- 'laws.FnExactBisimilarOf', WHERE WHAT IT READS IS OF BULK AT MOST 1048576: true; the input reads as it did. -/
def fnExactBisimilarOfUptoRow : OpenClaim := { program := "ytlpgldejmdiceabdoor", sum := "ebf969a6b7d4e9ec371caca511dc088cf46cc643df9da7bbd2baf9b206ddc014", func := "loop.example/g01082/laws.FnExactBisimilarOf", spec := "fnExactBisimilarOf", unfollowed := true, recurses := true, named := ["math/bits.deBruijn64tab"], apart := false, laid := [("math/bits.deBruijn64tab", laid_math_bits_deBruijn64tab)], narrowed := true }
def FnExactBisimilarOfUptoSaid : Prop := fnExactBisimilarOfUptoRow.holds Tryd.pinned (OpenSpec.upto fnExactBisimilarOfSpec)

/-- 'laws.FnExactWeaklyBisimilarOf', WHERE WHAT IT READS IS OF BULK AT MOST 1048576: true; the input reads as it did. -/
def fnExactWeaklyBisimilarOfUptoRow : OpenClaim := { program := "ytlpgldejmdiceabdoor", sum := "ebf969a6b7d4e9ec371caca511dc088cf46cc643df9da7bbd2baf9b206ddc014", func := "loop.example/g01082/laws.FnExactWeaklyBisimilarOf", spec := "fnExactWeaklyBisimilarOf", unfollowed := true, recurses := true, named := ["math/bits.deBruijn64tab"], apart := false, laid := [("math/bits.deBruijn64tab", laid_math_bits_deBruijn64tab)], narrowed := true }
def FnExactWeaklyBisimilarOfUptoSaid : Prop := fnExactWeaklyBisimilarOfUptoRow.holds Tryd.pinned (OpenSpec.upto fnExactWeaklyBisimilarOfSpec)

/-- 'laws.FnExactSaturateLabels', WHERE WHAT IT READS IS OF BULK AT MOST 1048576: true; the input reads as it did. -/
def fnExactSaturateLabelsUptoRow : OpenClaim := { program := "ytlpgldejmdiceabdoor", sum := "ebf969a6b7d4e9ec371caca511dc088cf46cc643df9da7bbd2baf9b206ddc014", func := "loop.example/g01082/laws.FnExactSaturateLabels", spec := "fnExactSaturateLabels", unfollowed := true, recurses := true, named := ["math/bits.deBruijn64tab"], apart := false, laid := [("math/bits.deBruijn64tab", laid_math_bits_deBruijn64tab)], narrowed := true }
def FnExactSaturateLabelsUptoSaid : Prop := fnExactSaturateLabelsUptoRow.holds Tryd.pinned (OpenSpec.upto fnExactSaturateLabelsSpec)

/-- 'laws.FnExactUnionOf', WHERE WHAT IT READS IS OF BULK AT MOST 1048576: true; the input reads as it did. -/
def fnExactUnionOfUptoRow : OpenClaim := { program := "ytlpgldejmdiceabdoor", sum := "ebf969a6b7d4e9ec371caca511dc088cf46cc643df9da7bbd2baf9b206ddc014", func := "loop.example/g01082/laws.FnExactUnionOf", spec := "fnExactUnionOf", unfollowed := true, recurses := true, named := ["math/bits.deBruijn64tab"], apart := false, laid := [("math/bits.deBruijn64tab", laid_math_bits_deBruijn64tab)], narrowed := true }
def FnExactUnionOfUptoSaid : Prop := fnExactUnionOfUptoRow.holds Tryd.pinned (OpenSpec.upto fnExactUnionOfSpec)

/-- 'laws.FnExactQuotientOf', WHERE WHAT IT READS IS OF BULK AT MOST 1048576: true; the input reads as it did. -/
def fnExactQuotientOfUptoRow : OpenClaim := { program := "ytlpgldejmdiceabdoor", sum := "ebf969a6b7d4e9ec371caca511dc088cf46cc643df9da7bbd2baf9b206ddc014", func := "loop.example/g01082/laws.FnExactQuotientOf", spec := "fnExactQuotientOf", unfollowed := true, recurses := true, named := ["math/bits.deBruijn64tab"], apart := false, laid := [("math/bits.deBruijn64tab", laid_math_bits_deBruijn64tab)], narrowed := true }
def FnExactQuotientOfUptoSaid : Prop := fnExactQuotientOfUptoRow.holds Tryd.pinned (OpenSpec.upto fnExactQuotientOfSpec)

/-- 'laws.FnExactSatisfying', WHERE WHAT IT READS IS OF BULK AT MOST 1048576: true; the input reads as it did. -/
def fnExactSatisfyingUptoRow : OpenClaim := { program := "ytlpgldejmdiceabdoor", sum := "ebf969a6b7d4e9ec371caca511dc088cf46cc643df9da7bbd2baf9b206ddc014", func := "loop.example/g01082/laws.FnExactSatisfying", spec := "fnExactSatisfying", unfollowed := true, recurses := true, named := ["internal/strconv.uint64pow10", "math/bits.deBruijn32tab", "math/bits.deBruijn64tab"], apart := false, laid := [("math/bits.deBruijn32tab", laid_math_bits_deBruijn32tab), ("math/bits.deBruijn64tab", laid_math_bits_deBruijn64tab), ("internal/strconv.uint64pow10", laid_internal_strconv_uint64pow10)], narrowed := true }
def FnExactSatisfyingUptoSaid : Prop := fnExactSatisfyingUptoRow.holds Tryd.pinned (OpenSpec.upto fnExactSatisfyingSpec)

end Rows
end Go.Proofs.YtlpgldejmdiceabDoor
